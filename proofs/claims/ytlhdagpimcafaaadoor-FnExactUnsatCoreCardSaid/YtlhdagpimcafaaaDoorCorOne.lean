/- CorOne: CorP Wo WoA AbGive CorI CorM. -/
import Derived.Test.YtlhdagpimcafaaaDoorUprTwo
import Derived.Laws.CopyOwn
import Derived.Laws.OwnMore
import Derived.Deep.RegionLaw
import Derived.Test.YtlhdagpimcafaaaDoorAbTwo
import Derived.Test.YtlhdagpimcafaaaDoorAbBr
import Derived.Test.YtlhdagpimcafaaaDoorAbThr
/- Chapter 38: dropping what is needless, as a plain function. -/
open Go Go.Proofs Go.RowKit
namespace Go.Proofs.YtlhdagpimcafaaaDoor.Ab
set_option linter.unusedSimpArgs false
set_option linter.unusedVariables false
set_option maxRecDepth 100000
/-- From place k-1 down to the first: each member without which the others are accepted goes. -/
def coreF {α : Type} (ok : List α → Bool) : Nat → List α → List α
  | 0, l => l
  | i + 1, l => coreF ok i (if ok (l.eraseIdx i) = true then l.eraseIdx i else l)
theorem coreF_len {α : Type} (ok : List α → Bool) : ∀ (k : Nat) (l : List α), (coreF ok k l).length ≤ l.length
  | 0, l => Nat.le_refl _
  | i + 1, l => by
    unfold coreF
    refine Nat.le_trans (coreF_len ok i _) ?_
    split
    · rw [List.length_eraseIdx]; split <;> omega
    · exact Nat.le_refl _
theorem coreF_mem {α : Type} (ok : List α → Bool) : ∀ (k : Nat) (l : List α), ∀ x, x ∈ coreF ok k l → x ∈ l
  | 0, l, x, h => h
  | i + 1, l, x, h => by
    unfold coreF at h
    have := coreF_mem ok i _ x h
    split at this
    · exact List.mem_of_mem_eraseIdx this
    · exact this
/-- The first k places hold their own numbers, and only they. -/
def firstK (k : Nat) (l : List Int) : Prop := k ≤ l.length ∧ (∀ j (h : j < l.length), j < k → l[j] = (j : Int)) ∧ ∀ j (h : j < l.length), k ≤ j → (k : Int) ≤ l[j]
theorem firstK_erase {k : Nat} {l : List Int} (h : firstK (k + 1) l) : l.eraseIdx k = l.filter (fun x => decide (x ≠ (k : Int))) ∧ firstK k (l.eraseIdx k) ∧ firstK k l := by
  obtain ⟨h1, h2, h3⟩ := h
  refine ⟨?_, ⟨?_, fun j hj hjk => ?_, fun j hj hjk => ?_⟩, by omega, fun j hj hjk => h2 j hj (by omega), fun j hj hjk => ?_⟩
  · have e : l = l.take k ++ l[k] :: l.drop (k + 1) := by
      rw [← List.drop_eq_getElem_cons (by omega : k < l.length), List.take_append_drop]
    rw [List.eraseIdx_eq_take_drop_succ]
    conv => rhs; rw [e]
    rw [List.filter_append, List.filter_cons]
    have hk := h2 k (by omega) (by omega)
    rw [hk, if_neg (by simp)]
    congr 1
    · symm
      rw [List.filter_eq_self]
      intro x hx
      obtain ⟨j, hj, rfl⟩ := List.getElem_of_mem hx
      rw [List.length_take] at hj
      rw [List.getElem_take, h2 j (by omega) (by omega)]
      simp; omega
    · symm
      rw [List.filter_eq_self]
      intro x hx
      obtain ⟨j, hj, rfl⟩ := List.getElem_of_mem hx
      rw [List.length_drop] at hj
      rw [List.getElem_drop]
      have := h3 (k + 1 + j) (by omega) (by omega)
      simp; omega
  · rw [List.length_eraseIdx, if_pos (by omega)]; omega
  · rw [List.getElem_eraseIdx_of_lt (h := hj) (h' := hjk)]
    exact h2 j _ (by omega)
  · rw [List.length_eraseIdx, if_pos (by omega)] at hj
    rw [List.getElem_eraseIdx_of_ge (h' := hjk)]
    have := h3 (j + 1) (by omega) (by omega)
    omega
  · by_cases e : j = k
    · subst e; rw [h2 j hj (by omega)]; exact Int.le_refl _
    · have := h3 j hj (by omega); omega
end Go.Proofs.YtlhdagpimcafaaaDoor.Ab

/- Chapter 38: a slice without one member, in the program. -/
open Go Go.Proofs Go.RowKit
namespace Go.Proofs.YtlhdagpimcafaaaDoor
set_option linter.unusedSimpArgs false
set_option linter.unusedVariables false
set_option maxRecDepth 100000
theorem row_heap {w : World} {base n g : Nat} {e : TypeId} {xs : List Value} (h : w.ownsRow base e 1 (.slice (some ⟨g, 0, none⟩) n n) n xs) : w.heap[g]? = some (.cells xs.toArray e (0, 0)) := by
  rcases h.2 with ⟨h1, _⟩ | ⟨g', cap, cur, h1, h2, h3, h4, h5, h6, h7⟩
  · simp at h1
  · simp only [Value.slice.injEq, Option.some.injEq, Addr.mk.injEq, and_true, true_and] at h1
    obtain ⟨rfl, rfl⟩ := h1
    rw [h3, ← h7, List.take_of_length_le (by simp [h6])]
set_option maxHeartbeats 1600000 in
theorem without_int_c {a : Option Addr} {cap i : Nat} {cs : List Value} {w : World} (hi : i < cs.length) (hl : cs.length ≤ 1048576) (hcap : cs.length ≤ cap) {b off : Nat} (ha : a = some ⟨b, off, none⟩) (hbw : b < w.heap.size) (hcell : ∀ j v, cs[j]? = some v → w.cell? ⟨b, off + j, none⟩ = some v) (h1 : ∀ v, v ∈ cs → v.oneCell' = true) :
    Calls Tryd.prog 39 #[.slice a cs.length cap, .int .i64 i] w fun e w' => (e = .returned (.slice (some ⟨w.heap.size, 0, none⟩) (cs.length - 1) (cs.length - 1)) ∧ w'.heap[w.heap.size]? = some (.cells (cs.eraseIdx i).toArray 3 (0, 0))) ∧ Below w.heap.size w w' := by
  subst ha
  obtain ⟨i0, hi0, hz0, hz1, hz2⟩ := info_parts Tryd.infoI
  obtain ⟨n, hn⟩ : ∃ n, cs.length = n + 1 := ⟨cs.length - 1, by omega⟩
  have Hcell := Lib.hid hcell
  have H1 := Lib.hid h1
  have Hn := Lib.hid hn
  have hw1 : IntKind.i64.wrap (((n + 1 : Nat) : Int) - 1) = (n : Int) := by rw [IntKind.wrap_i64]; omega
  have hw2 : IntKind.i64.wrap ((i : Int) + 1) = ((i + 1 : Nat) : Int) := by rw [IntKind.wrap_i64]; omega
  rw [hn] at hi hl hcap ⊢
  clear hn hcell h1
  go_enter Tryd.func39, Tryd.ntmps39
  go_wp2_with (at_make; refine wpList_make_full _ rfl (.tmp 8) (.tmp 8) 24 rfl w.heap.size 3 i0 (Value.int .i64 0) 1 Tryd.underlying24 hi0 hz0 hz1 .i64 .i64 _ _ n rfl rfl ?cL ?cC ?c1 ?c2 (Nat.le_refl _) ?_)
  case cL => first | rfl | omega
  case cC => first | rfl | omega
  case c1 => rw [hz2]; omega
  case c2 => unfold maxLen; omega
  intro w1 hown hg1
  rw [toList_madeCells_one] at hown
  have hb1 : Below w.heap.size w w1 := (Below.refl _ _).grown hg1 (Nat.le_refl _) (fun k hk => by cases hk)
  have hG1 := row_heap hown
  have hsz : (Tryd.prog.info? 3).map (·.size) = some 1 := by rw [hi0]; simp [hz1]
  have Hc1 : Hid (∀ j v, cs[j]? = some v → w1.cell? ⟨b, off + j, none⟩ = some v) := fun j v hj => (hb1.cell (p := ⟨b, off + j, none⟩) hbw).trans (Hcell.out j v hj)
  have htl : (cs.take i).length = i := by rw [List.length_take]; have := Hn.out; omega
  clear hown hg1
  go_wp2_with (with_reducible refine wpList_copy_splice rfl (.tmp 10) (.tmp 13) 24 24 rfl 3 Tryd.underlying24 hsz _ _ _ _ _ _ rfl rfl w.heap.size 0 (List.replicate n (Value.int .i64 0)) 3 hG1 (cs.take i) ?d1 ?d2 ?d3 ?d4 w.heap.size w hb1 (Nat.le_refl _) ?_)
  case d1 => rw [htl]; exact (Nat.min_eq_left (by omega)).symm
  case d2 =>
    intro _ j v hj
    have hj2 := (List.getElem?_eq_some_iff.1 hj).1
    rw [List.getElem?_take_of_lt (by omega)] at hj
    exact Hc1.out j v hj
  case d3 => rw [htl, List.length_replicate]; omega
  case d4 => exact fun v hv => H1.out v (List.mem_of_mem_take hv)
  clear hG1 hb1
  intro w2 HG2 hB2
  have Hc2 : Hid (∀ j v, cs[j]? = some v → w2.cell? ⟨b, off + j, none⟩ = some v) := fun j v hj => (hB2.cell (p := ⟨b, off + j, none⟩) hbw).trans (Hcell.out j v hj)
  have hdl : (cs.drop (i + 1)).length = n - i := by rw [List.length_drop]; have := Hn.out; omega
  have hc2l : (splice (List.replicate n (Value.int .i64 0)) 0 (cs.take i)).length = n := by rw [length_splice _ _ _ (by rw [htl, List.length_replicate]; omega), List.length_replicate]
  have hfin : splice (splice (List.replicate n (Value.int .i64 0)) 0 (cs.take i)) i (cs.drop (i + 1)) = cs.eraseIdx i := by
    rw [List.eraseIdx_eq_take_drop_succ]
    unfold splice
    rw [List.take_zero, List.nil_append, htl, Nat.zero_add, hdl]
    have e1 : (cs.take i ++ (List.replicate n (Value.int .i64 0)).drop i).take i = cs.take i := by
      rw [List.take_append_of_le_length (by omega), List.take_of_length_le (by omega)]
    have e2 : (cs.take i ++ (List.replicate n (Value.int .i64 0)).drop i).drop (i + (n - i)) = [] := by
      apply List.drop_eq_nil_of_le
      rw [List.length_append, htl, List.length_drop, List.length_replicate]; omega
    rw [e1, e2, List.append_nil]
  generalize splice (List.replicate n (Value.int .i64 0)) 0 (cs.take i) = cur2 at *
  have Hfin := Lib.hid hfin
  clear hfin
  have hin : i ≤ n := by omega
  have hnn : (0 : Int) ≤ (i : Int) + 1 := by omega
  rcases Nat.lt_or_eq_of_le hin with hlt | heq
  · have hne : ¬ n = i := by omega
    have hce : ¬ cap = i + 1 := by omega
    have hle1 : i + 1 ≤ n + 1 := by omega
    go_upto_region 3 with fail
    go_region_law (refine step_copy_splice rfl (.tmp 17) (.tmp 21) 24 24 rfl 3 Tryd.underlying24 hsz (some ⟨w.heap.size, i, none⟩) (some ⟨b, off + (i + 1), none⟩) (n - i) (n - i) (n - i) (cap - (i + 1)) (by go_simp) (by go_simp) w.heap.size i cur2 3 (by exact HG2.out) (cs.drop (i + 1)) (by rw [hdl]; first | exact (Nat.min_self _).symm | (show _ = min _ _; omega)) (fun _ => ⟨rfl, _, rfl, fun j v hj => by rw [List.getElem?_drop] at hj; have := Hc2.out (i + 1 + j) v hj; by_cases hj0 : j = 0 <;> simpa [Addr.add, Nat.add_assoc, hj0] using this⟩) (by rw [hdl, hc2l]; omega) (fun v hv => H1.out v (List.mem_of_mem_drop hv)) w.heap.size w (by first | exact hB2 | exact hB2.drew | exact Below.drewN' hB2 _) (Nat.le_refl _) ?_; intro w3 HG3 hB3)
    go_wp2
    go_ret
    exact ⟨⟨rfl, by rw [← Hfin.out]; exact HG3.out⟩, hB3⟩
  · subst heq
    by_cases hce : cap = i + 1
    · subst hce
      go_upto_region 3 with fail
      go_region_law (refine step_copy_splice rfl (.tmp 17) (.tmp 21) 24 24 rfl 3 Tryd.underlying24 hsz (some ⟨w.heap.size, 0, none⟩) (some ⟨b, off, none⟩) 0 0 0 0 (by go_simp) (by go_simp) w.heap.size i cur2 3 (by exact HG2.out) (cs.drop (i + 1)) (by rw [hdl]; first | exact (Nat.min_self _).symm | (show _ = min _ _; omega)) (fun hp => by rw [hdl] at hp; omega) (by rw [hdl, hc2l]; omega) (fun v hv => H1.out v (List.mem_of_mem_drop hv)) w.heap.size w (by first | exact hB2 | exact hB2.drew | exact Below.drewN' hB2 _) (Nat.le_refl _) ?_; intro w3 HG3 hB3)
      go_wp2
      go_ret
      exact ⟨⟨rfl, by rw [← Hfin.out]; exact HG3.out⟩, hB3⟩
    · skip
      go_upto_region 3 with fail
      go_region_law (refine step_copy_splice rfl (.tmp 17) (.tmp 21) 24 24 rfl 3 Tryd.underlying24 hsz (some ⟨w.heap.size, 0, none⟩) (some ⟨b, off + (i + 1), none⟩) 0 0 0 (cap - (i + 1)) (by go_simp) (by go_simp) w.heap.size i cur2 3 (by exact HG2.out) (cs.drop (i + 1)) (by rw [hdl]; first | exact (Nat.min_self _).symm | (show _ = min _ _; omega)) (fun hp => by rw [hdl] at hp; omega) (by rw [hdl, hc2l]; omega) (fun v hv => H1.out v (List.mem_of_mem_drop hv)) w.heap.size w (by first | exact hB2 | exact hB2.drew | exact Below.drewN' hB2 _) (Nat.le_refl _) ?_; intro w3 HG3 hB3)
      go_wp2
      go_ret
      exact ⟨⟨rfl, by rw [← Hfin.out]; exact HG3.out⟩, hB3⟩
set_option maxHeartbeats 1600000 in
theorem without_ints_c {a : Option Addr} {cap i : Nat} {cs : List Value} {w : World} (hi : i < cs.length) (hl : cs.length ≤ 1048576) (hcap : cs.length ≤ cap) {b off : Nat} (ha : a = some ⟨b, off, none⟩) (hbw : b < w.heap.size) (hcell : ∀ j v, cs[j]? = some v → w.cell? ⟨b, off + j, none⟩ = some v) (h1 : ∀ v, v ∈ cs → v.oneCell' = true) :
    Calls Tryd.prog 44 #[.slice a cs.length cap, .int .i64 i] w fun e w' => (e = .returned (.slice (some ⟨w.heap.size, 0, none⟩) (cs.length - 1) (cs.length - 1)) ∧ w'.heap[w.heap.size]? = some (.cells (cs.eraseIdx i).toArray 24 (0, 0))) ∧ Below w.heap.size w w' := by
  subst ha
  obtain ⟨i0, hi0, hz0, hz1, hz2⟩ := info_parts (P := Tryd.prog) (e := 24) (z := .slice none 0 0) (size := 1) (bytes := 24) (by kernel_rfl)
  obtain ⟨n, hn⟩ : ∃ n, cs.length = n + 1 := ⟨cs.length - 1, by omega⟩
  have Hcell := Lib.hid hcell
  have H1 := Lib.hid h1
  have Hn := Lib.hid hn
  have hw1 : IntKind.i64.wrap (((n + 1 : Nat) : Int) - 1) = (n : Int) := by rw [IntKind.wrap_i64]; omega
  have hw2 : IntKind.i64.wrap ((i : Int) + 1) = ((i + 1 : Nat) : Int) := by rw [IntKind.wrap_i64]; omega
  rw [hn] at hi hl hcap ⊢
  clear hn hcell h1
  go_enter Tryd.func44, Tryd.ntmps44
  go_wp2_with (at_make; refine wpList_make_full _ rfl (.tmp 8) (.tmp 8) 22 rfl w.heap.size 24 i0 (Value.slice none 0 0) 1 Tryd.underlying22 hi0 hz0 hz1 .i64 .i64 _ _ n rfl rfl ?cL ?cC ?c1 ?c2 (Nat.le_refl _) ?_)
  case cL => first | rfl | omega
  case cC => first | rfl | omega
  case c1 => rw [hz2]; omega
  case c2 => unfold maxLen; omega
  intro w1 hown hg1
  rw [toList_madeCells_one] at hown
  have hb1 : Below w.heap.size w w1 := (Below.refl _ _).grown hg1 (Nat.le_refl _) (fun k hk => by cases hk)
  have hG1 := row_heap hown
  have hsz : (Tryd.prog.info? 24).map (·.size) = some 1 := by rw [hi0]; simp [hz1]
  have Hc1 : Hid (∀ j v, cs[j]? = some v → w1.cell? ⟨b, off + j, none⟩ = some v) := fun j v hj => (hb1.cell (p := ⟨b, off + j, none⟩) hbw).trans (Hcell.out j v hj)
  have htl : (cs.take i).length = i := by rw [List.length_take]; have := Hn.out; omega
  clear hown hg1
  go_wp2_with (with_reducible refine wpList_copy_splice rfl (.tmp 10) (.tmp 13) 22 22 rfl 24 Tryd.underlying22 hsz _ _ _ _ _ _ rfl rfl w.heap.size 0 (List.replicate n (Value.slice none 0 0)) 24 hG1 (cs.take i) ?d1 ?d2 ?d3 ?d4 w.heap.size w hb1 (Nat.le_refl _) ?_)
  case d1 => rw [htl]; exact (Nat.min_eq_left (by omega)).symm
  case d2 =>
    intro _ j v hj
    have hj2 := (List.getElem?_eq_some_iff.1 hj).1
    rw [List.getElem?_take_of_lt (by omega)] at hj
    exact Hc1.out j v hj
  case d3 => rw [htl, List.length_replicate]; omega
  case d4 => exact fun v hv => H1.out v (List.mem_of_mem_take hv)
  clear hG1 hb1
  intro w2 HG2 hB2
  have Hc2 : Hid (∀ j v, cs[j]? = some v → w2.cell? ⟨b, off + j, none⟩ = some v) := fun j v hj => (hB2.cell (p := ⟨b, off + j, none⟩) hbw).trans (Hcell.out j v hj)
  have hdl : (cs.drop (i + 1)).length = n - i := by rw [List.length_drop]; have := Hn.out; omega
  have hc2l : (splice (List.replicate n (Value.slice none 0 0)) 0 (cs.take i)).length = n := by rw [length_splice _ _ _ (by rw [htl, List.length_replicate]; omega), List.length_replicate]
  have hfin : splice (splice (List.replicate n (Value.slice none 0 0)) 0 (cs.take i)) i (cs.drop (i + 1)) = cs.eraseIdx i := by
    rw [List.eraseIdx_eq_take_drop_succ]
    unfold splice
    rw [List.take_zero, List.nil_append, htl, Nat.zero_add, hdl]
    have e1 : (cs.take i ++ (List.replicate n (Value.slice none 0 0)).drop i).take i = cs.take i := by
      rw [List.take_append_of_le_length (by omega), List.take_of_length_le (by omega)]
    have e2 : (cs.take i ++ (List.replicate n (Value.slice none 0 0)).drop i).drop (i + (n - i)) = [] := by
      apply List.drop_eq_nil_of_le
      rw [List.length_append, htl, List.length_drop, List.length_replicate]; omega
    rw [e1, e2, List.append_nil]
  generalize splice (List.replicate n (Value.slice none 0 0)) 0 (cs.take i) = cur2 at *
  have Hfin := Lib.hid hfin
  clear hfin
  have hin : i ≤ n := by omega
  have hnn : (0 : Int) ≤ (i : Int) + 1 := by omega
  rcases Nat.lt_or_eq_of_le hin with hlt | heq
  · have hne : ¬ n = i := by omega
    have hce : ¬ cap = i + 1 := by omega
    have hle1 : i + 1 ≤ n + 1 := by omega
    go_upto_region 3 with fail
    go_region_law (refine step_copy_splice rfl (.tmp 17) (.tmp 21) 22 22 rfl 24 Tryd.underlying22 hsz (some ⟨w.heap.size, i, none⟩) (some ⟨b, off + (i + 1), none⟩) (n - i) (n - i) (n - i) (cap - (i + 1)) (by go_simp) (by go_simp) w.heap.size i cur2 24 (by exact HG2.out) (cs.drop (i + 1)) (by rw [hdl]; first | exact (Nat.min_self _).symm | (show _ = min _ _; omega)) (fun _ => ⟨rfl, _, rfl, fun j v hj => by rw [List.getElem?_drop] at hj; have := Hc2.out (i + 1 + j) v hj; by_cases hj0 : j = 0 <;> simpa [Addr.add, Nat.add_assoc, hj0] using this⟩) (by rw [hdl, hc2l]; omega) (fun v hv => H1.out v (List.mem_of_mem_drop hv)) w.heap.size w (by first | exact hB2 | exact hB2.drew | exact Below.drewN' hB2 _) (Nat.le_refl _) ?_; intro w3 HG3 hB3)
    go_wp2
    go_ret
    exact ⟨⟨rfl, by rw [← Hfin.out]; exact HG3.out⟩, hB3⟩
  · subst heq
    by_cases hce : cap = i + 1
    · subst hce
      go_upto_region 3 with fail
      go_region_law (refine step_copy_splice rfl (.tmp 17) (.tmp 21) 22 22 rfl 24 Tryd.underlying22 hsz (some ⟨w.heap.size, 0, none⟩) (some ⟨b, off, none⟩) 0 0 0 0 (by go_simp) (by go_simp) w.heap.size i cur2 24 (by exact HG2.out) (cs.drop (i + 1)) (by rw [hdl]; first | exact (Nat.min_self _).symm | (show _ = min _ _; omega)) (fun hp => by rw [hdl] at hp; omega) (by rw [hdl, hc2l]; omega) (fun v hv => H1.out v (List.mem_of_mem_drop hv)) w.heap.size w (by first | exact hB2 | exact hB2.drew | exact Below.drewN' hB2 _) (Nat.le_refl _) ?_; intro w3 HG3 hB3)
      go_wp2
      go_ret
      exact ⟨⟨rfl, by rw [← Hfin.out]; exact HG3.out⟩, hB3⟩
    · skip
      go_upto_region 3 with fail
      go_region_law (refine step_copy_splice rfl (.tmp 17) (.tmp 21) 22 22 rfl 24 Tryd.underlying22 hsz (some ⟨w.heap.size, 0, none⟩) (some ⟨b, off + (i + 1), none⟩) 0 0 0 (cap - (i + 1)) (by go_simp) (by go_simp) w.heap.size i cur2 24 (by exact HG2.out) (cs.drop (i + 1)) (by rw [hdl]; first | exact (Nat.min_self _).symm | (show _ = min _ _; omega)) (fun hp => by rw [hdl] at hp; omega) (by rw [hdl, hc2l]; omega) (fun v hv => H1.out v (List.mem_of_mem_drop hv)) w.heap.size w (by first | exact hB2 | exact hB2.drew | exact Below.drewN' hB2 _) (Nat.le_refl _) ?_; intro w3 HG3 hB3)
      go_wp2
      go_ret
      exact ⟨⟨rfl, by rw [← Hfin.out]; exact HG3.out⟩, hB3⟩
end Go.Proofs.YtlhdagpimcafaaaDoor

/- Chapter 38: a slice without one member, for the layer. -/
open Go Go.Proofs Go.RowKit
namespace Go.Proofs.YtlhdagpimcafaaaDoor.Ab
set_option linter.unusedSimpArgs false
set_option linter.unusedVariables false
set_option maxRecDepth 100000
theorem RdE.erase {w : World} {K : Nat → Nat → Prop} : ∀ {es : List (List D)} {cs : List Value} {i : Nat}, RdE w K 1 es cs → i < es.length → RdE w K 1 (es.eraseIdx i) (cs.eraseIdx i)
  | [], cs, i, h, hi => by simp at hi
  | e :: es, cs, i, h, hi => by
    simp only [RdE] at h
    obtain ⟨c1, c2, rfl, h1, h2, h3⟩ := h
    have hl := h2.len
    rw [h1] at hl
    obtain ⟨x, rfl⟩ : ∃ x, c1 = [x] := by
      cases c1 with
      | nil => simp at hl
      | cons x t => cases t with
        | nil => exact ⟨x, rfl⟩
        | cons y t => simp at hl
    cases i with
    | zero => exact h3
    | succ i =>
      show RdE w K 1 (e :: es.eraseIdx i) (x :: c2.eraseIdx i)
      simp only [RdE]
      exact ⟨[x], c2.eraseIdx i, rfl, h1, h2, RdE.erase h3 (by simpa using hi)⟩
/-- What comes back, from what stands in the new block. -/
theorem erase_ac {f : FuncId} {fn : Func} (hf : Tryd.prog.funcs[f]? = some fn) (hb : fn.body.isSome = true) (hname : fn.name ≠ "runtime.NumGoroutine") {T : TypeId} {es : List (List D)} {i : Nat} (hi : i < es.length) (hl : es.length ≤ 1048576) (he : ∀ e, e ∈ es → e.length = 1)
    (h : ∀ {a : Option Addr} {cap : Nat} {cs : List Value} {w : World}, i < cs.length → cs.length ≤ 1048576 → cs.length ≤ cap → ∀ {b off : Nat}, a = some ⟨b, off, none⟩ → b < w.heap.size → (∀ j v, cs[j]? = some v → w.cell? ⟨b, off + j, none⟩ = some v) → (∀ v, v ∈ cs → v.oneCell' = true) →
      Calls Tryd.prog f #[.slice a cs.length cap, .int .i64 i] w fun e w' => (e = .returned (.slice (some ⟨w.heap.size, 0, none⟩) (cs.length - 1) (cs.length - 1)) ∧ w'.heap[w.heap.size]? = some (.cells (cs.eraseIdx i).toArray T (0, 0))) ∧ Below w.heap.size w w') :
    AC Tryd.prog f [.d (.sl es), .d (.v (.int .i64 i))] (.d (.sl (es.eraseIdx i))) ∧ ((∀ e, e ∈ es → ∀ d, d ∈ e → d.flat) → AC Tryd.prog f [.d (.sl es), .d (.v (.int .i64 i))] (.o 0 (.sl (es.eraseIdx i)))) := by
  have key : ∀ (w : World) (K : Nat → Nat → Prop) (cs : List Value) (ov : Nat → Value), (∀ b o, K b o → b < w.heap.size) → RdSs w (ghA K ov) [.d (.sl es), .d (.v (.int .i64 i))] cs →
      Calls Tryd.prog f cs.toArray w fun e w' => ∃ g n xs, e = .returned (.slice (some ⟨g, 0, none⟩) n n) ∧ w.heap.size ≤ g ∧ g < w'.heap.size ∧ n = (es.eraseIdx i).length ∧ n ≤ maxLen ∧ w'.heap[g]? = some (.cells xs.toArray T (0, 0)) ∧ RdE w' K 1 (es.eraseIdx i) xs ∧ Below w.heap.size w w' := by
    intro w K cs ov hK hr
    simp only [RdSs] at hr
    obtain ⟨v0, _, rfl, q0, v1, _, rfl, q1, rfl⟩ := hr
    have := q1.int
    subst this
    simp only [RdS, RdD, ghA] at q0
    obtain ⟨a, cap, n, cs0, rfl, h2, h3, h4, h5⟩ := q0
    have hn : n = 1 := by
      cases es with
      | nil => simp at hi
      | cons e es =>
        have h6 := h4
        simp only [RdE] at h6
        obtain ⟨_, _, _, h7, _⟩ := h6
        rw [← h7]
        exact he e (by simp)
    subst hn
    have hlen := h4.len
    rw [Nat.mul_one] at hlen
    rcases h5 with h5 | ⟨b, off, rfl, h6⟩
    · subst h5; simp at hi
    have hbw : b < w.heap.size := by
      have : i < cs0.length := by omega
      exact hK _ _ (h6 i _ (List.getElem?_eq_getElem this)).2
    have hc := h (a := some ⟨b, off, none⟩) (cap := cap) (cs := cs0) (w := w) (by omega) (by omega) (by omega) rfl hbw (fun j v hj => (h6 j v hj).1) (h4.ones)
    rw [hlen] at hc
    refine Calls.mono hc ?_
    rintro e w' ⟨⟨rfl, h8⟩, h9⟩
    refine ⟨w.heap.size, es.length - 1, cs0.eraseIdx i, rfl, Nat.le_refl _, (Array.getElem?_eq_some_iff.1 h8).1, by rw [List.length_eraseIdx, if_pos hi], by simp only [maxLen]; omega, h8, ?_, h9⟩
    exact (h4.erase hi).keep (fun b o hb => ⟨hb, h9.cell (p := ⟨b, o, none⟩) (hK b o hb)⟩)
  have cells : ∀ {w' : World} {g : Nat} {xs : List Value}, w'.heap[g]? = some (.cells xs.toArray T (0, 0)) → ∀ j v, xs[j]? = some v → w'.cell? ⟨g, 0 + j, none⟩ = some v ∧ w'.frozen? ⟨g, 0 + j, none⟩ = false := fun hg j v hj => by
    rw [Nat.zero_add]
    exact ⟨by rw [cell_of_row _ _ _ _ _ _ hg]; simpa using hj, by simp [World.frozen?, hg]⟩
  refine ⟨⟨⟨fn, hf, hb, hname⟩, by simp only [S.res], by simp [S.os], fun w K cs ov _ hK hr => Calls.mono (key w K cs ov hK hr) ?_⟩, fun hflat => ⟨⟨fn, hf, hb, hname⟩, by simp only [S.res], by simp [S.os], fun w K cs ov _ hK hr => Calls.mono (key w K cs ov hK hr) ?_⟩⟩
  · rintro e w' ⟨g, n, xs, rfl, h1, h2, rfl, h4, h5, h6, h7⟩
    refine ⟨_, rfl, ⟨fun _ => [], fun _ => .nilIface, ?_, by simp [S.os], by simp [S.os]⟩, h7⟩
    simp only [RdS, ghA, RdD]
    exact ⟨_, _, 1, xs, rfl, Nat.le_refl _, h4, h6.keep (fun b o hb => ⟨.inl hb, rfl⟩), .inr ⟨g, 0, rfl, fun j v hj => ⟨(cells h5 j v hj).1, .inr ⟨h1, h2⟩⟩⟩⟩
  · rintro e w' ⟨g, n, xs, rfl, h1, h2, rfl, h4, h5, h6, h7⟩
    refine ⟨_, rfl, ⟨fun _ => [g], fun _ => .slice (some ⟨g, 0, none⟩) (es.eraseIdx i).length (es.eraseIdx i).length, ?_, ?_, ?_⟩, h7⟩
    · simp only [RdS, ghA, RdD]
      exact ⟨⟨_, _, 1, xs, rfl, Nat.le_refl _, h4, h6.keep (fun b o hb => ⟨.inl hb, rfl⟩), .inr ⟨g, 0, rfl, fun j v hj => ⟨(cells h5 j v hj).1, .inr ⟨h1, h2⟩⟩⟩⟩, trivial⟩
    · intro p hp
      simp only [S.os, List.mem_singleton] at hp
      subst hp
      refine ⟨?_, fun k hk => by rw [List.mem_singleton] at hk; subst hk; exact ⟨h1, h2⟩⟩
      simp only [OwnD]
      refine ⟨_, _, 1, xs, rfl, Nat.le_refl _, h4, .inr ⟨g, 0, [], rfl, rfl, by simp, h2, fun j v hj => cells h5 j v hj, ?_⟩⟩
      exact OwnE.ofFlat h6 (fun e he2 d hd => hflat e (List.mem_of_mem_eraseIdx he2) d hd)
    · intro p q hp hq hne
      simp only [S.os, List.mem_singleton] at hp hq
      subst hp; subst hq
      exact (hne rfl).elim
end Go.Proofs.YtlhdagpimcafaaaDoor.Ab

/- An own datum under another number; the old number is dead. -/
namespace Go.Proofs.YtlhdagpimcafaaaDoor.Ab
open Go.RowKit
set_option linter.unusedSimpArgs false
set_option linter.unusedVariables false
set_option maxRecDepth 100000
theorem Le.giveO {s : St} {i j t : Nat} {x : D} (hi0 : s.m i = .tok x) (hm : s.m j = .none) (ht : s.t t = .o i x) : Le s { s with t := upd s.t t (.o j x), m := upd (upd s.m i .dead) j (.tok x) } := fun w0 a w G hi => by
  have hI := hi.mem i
  rw [hi0] at hI
  simp only [InvB] at hI
  have hne : j ≠ i := fun h => by rw [h, hi0] at hm; cases hm
  let G' : Gh := { G with F := upd G.F j (G.F i), ov := upd G.ov j (G.ov i) }
  have hk : Keep s.m w G w G' := ⟨fun b o h => ⟨h, rfl⟩, fun _ _ => rfl, fun k hk => by
    have : k ≠ j := fun h => hk (h ▸ hm)
    simp only [G', upd_ne _ _ _ this], fun _ _ => .inl ⟨rfl, rfl⟩⟩
  have hmm : ∀ k, s.m k ≠ .none → upd (upd s.m i .dead) j (.tok x) k ≠ .none := fun k h => by
    have h2 : k ≠ j := fun h' => h (h' ▸ hm)
    rw [upd_ne _ _ _ h2]
    by_cases hj : k = i
    · subst hj; rw [upd_same]; exact fun h => by cases h
    · rw [upd_ne _ _ _ hj]; exact h
  have live : ∀ k, (upd (upd s.m i .dead) j (.tok x) k).live → k = j ∨ (k ≠ j ∧ k ≠ i ∧ (s.m k).live) := fun k h => by
    by_cases h2 : k = j
    · exact .inl h2
    · rw [upd_ne _ _ _ h2] at h
      by_cases hj : k = i
      · subst hj; rw [upd_same] at h; exact h.elim
      · rw [upd_ne _ _ _ hj] at h; exact .inr ⟨h2, hj, h⟩
  refine ⟨G', hi.below, hi.defers, hi.size, fun k hk' => ?_, hi.kold, hi.kin, fun k => ?_, fun p q hpq hl hl' k hk1 hk2 => ?_⟩
  · have h1 := hi.slots k hk'
    by_cases hit : k = t
    · subst hit
      simp only [upd_same]
      rw [ht] at h1
      have h2 := h1.1
      simp only [RdS] at h2
      refine ⟨?_, by simp only [S.wf, upd_same]; exact fun h => by cases h⟩
      simp only [RdS, G', upd_same]
      exact h2
    · simp only [upd_ne _ _ _ hit]
      exact ⟨h1.1.keep hk h1.2, h1.2.mono hmm⟩
  · by_cases h2 : k = j
    · subst h2
      simp only [InvB, G', upd_same]
      exact hI
    · simp only [upd_ne _ _ _ h2]
      by_cases hj : k = i
      · subst hj; simp only [upd_same]; trivial
      · simp only [upd_ne _ _ _ hj]
        by_cases hid : s.m k = .none
        · rw [hid]; trivial
        · exact InvB.keep hk hmm hid (fun _ _ => ⟨rfl, fun _ => Iff.rfl⟩) (upd_ne _ _ _ h2) ⟨rfl, rfl⟩ (Nat.le_refl _) (hi.mem k)
  · have lid : (s.m i).live := by rw [hi0]; trivial
    rcases live p hl with rfl | ⟨a1, a2, a3⟩
    · rcases live q hl' with rfl | ⟨b1, b2, b3⟩
      · exact hpq rfl
      · simp only [G', upd_same] at hk1
        simp only [G', upd_ne _ _ _ b1] at hk2
        exact hi.disj i q (fun e => b2 e.symm) lid b3 k hk1 hk2
    · simp only [G', upd_ne _ _ _ a1] at hk1
      rcases live q hl' with rfl | ⟨b1, b2, b3⟩
      · simp only [G', upd_same] at hk2
        exact hi.disj p i a2 a3 lid k hk1 hk2
      · simp only [G', upd_ne _ _ _ b1] at hk2
        exact hi.disj p q hpq a3 b3 k hk1 hk2
/-- A made slice that holds all that lies behind it: from here on an own datum. -/
theorem Le.tokA {s : St} {i j t n : Nat} {e : TypeId} {es : List (List D)} (ha : s.m i = .arr true e n es) (hm : s.m j = .none) (ht : s.t t = .m i) (htn : t < s.n) : Le s { s with t := upd s.t t (.o j (.sl es)), m := upd (upd s.m i .dead) j (.tok (.sl es)) } := fun w0 a w G hi => by
  obtain ⟨h0, cap, cur, xs, F', hov, hheap, hnc, hcm, hcs, htake, hge, hrd, hF, hnF, hnK, hin, hdeep⟩ := hi.arr ha
  have hlt : G.bx i < w.heap.size := (Array.getElem?_eq_some_iff.1 hheap).1
  have hs0 := (hi.slots t htn).1
  rw [ht] at hs0
  have hown := hi.ownD_arr ha hs0
  simp only [RdS] at hs0
  have hne : j ≠ i := fun h => by rw [h, ha] at hm; cases hm
  let G' : Gh := { G with K := fun b o => G.K b o ∨ b = G.bx i, F := upd G.F j (G.F i), ov := upd G.ov j (G.ov i) }
  have hk : Keep s.m w G w G' := ⟨fun b o h => ⟨.inl h, rfl⟩, fun _ _ => rfl, fun k hk => by
    have : k ≠ j := fun h => hk (h ▸ hm)
    simp only [G', upd_ne _ _ _ this], fun _ _ => .inl ⟨rfl, rfl⟩⟩
  have hmm : ∀ k, s.m k ≠ .none → upd (upd s.m i .dead) j (.tok (.sl es)) k ≠ .none := fun k h => by
    have h2 : k ≠ j := fun h' => h (h' ▸ hm)
    rw [upd_ne _ _ _ h2]
    by_cases hj : k = i
    · subst hj; rw [upd_same]; exact fun h => by cases h
    · rw [upd_ne _ _ _ hj]; exact h
  have hFK : ∀ k, k ∈ G.F i → w0.heap.size ≤ k ∧ k < w.heap.size ∧ ∀ o, G'.K k o := fun k hk' => by
    rw [hF] at hk'
    rcases List.mem_cons.1 hk' with rfl | hk'
    · exact ⟨hge, hlt, fun _ => .inr rfl⟩
    · have := hin k hk'
      exact ⟨this.1, this.2.1, fun o => .inl (this.2.2 o)⟩
  have other : ∀ k0, k0 ≠ i → (s.m k0).live → ∀ k, k ∈ G.F k0 → ∀ o, G'.K k o ↔ G.K k o := by
    intro k0 hj hl k hk' o
    constructor
    · rintro (h | rfl)
      · exact h
      · exact absurd (by rw [hF]; simp) (hi.disj k0 i hj hl (by rw [ha]; trivial) _ hk')
    · exact .inl
  have live : ∀ k, (upd (upd s.m i .dead) j (.tok (.sl es)) k).live → k = j ∨ (k ≠ j ∧ k ≠ i ∧ (s.m k).live) := fun k h => by
    by_cases h2 : k = j
    · exact .inl h2
    · rw [upd_ne _ _ _ h2] at h
      by_cases hj : k = i
      · subst hj; rw [upd_same] at h; exact h.elim
      · rw [upd_ne _ _ _ hj] at h; exact .inr ⟨h2, hj, h⟩
  refine ⟨G', hi.below, hi.defers, hi.size, fun k hk' => ?_, fun b o hb => ?_, fun b o h => ?_, fun k => ?_, fun p q hpq hl hl' k hk1 hk2 => ?_⟩
  · have h1 := hi.slots k hk'
    by_cases hit : k = t
    · subst hit
      simp only [upd_same]
      refine ⟨?_, by simp only [S.wf, upd_same]; exact fun h => by cases h⟩
      simp only [RdS, G', upd_same]
      exact ⟨hown.rd (fun k hk => (hFK k hk).2.2), hs0.1⟩
    · simp only [upd_ne _ _ _ hit]
      exact ⟨h1.1.keep hk h1.2, h1.2.mono hmm⟩
  · rw [← hi.kold b o hb]
    constructor
    · rintro (h | rfl)
      · exact h
      · omega
    · exact .inl
  · rcases h with h | rfl
    · exact hi.kin b o h
    · exact hlt
  · by_cases h2 : k = j
    · subst h2
      simp only [InvB, G', upd_same]
      refine ⟨?_, hFK⟩
      rw [← hs0.1]
      exact hown
    · simp only [upd_ne _ _ _ h2]
      by_cases hj : k = i
      · subst hj; simp only [upd_same]; trivial
      · simp only [upd_ne _ _ _ hj]
        have h3 : s.m k ≠ .none → InvB w0 w G' (upd (upd s.m i .dead) j (.tok (.sl es))) k (s.m k) := fun hid => by
          by_cases hl : (s.m k).live
          · exact InvB.keep hk hmm hid (fun k1 hk' => ⟨rfl, other k hj hl k1 hk'⟩) (upd_ne _ _ _ h2) ⟨rfl, rfl⟩ (Nat.le_refl _) (hi.mem k)
          · cases hx : s.m k <;> rw [hx] at hl <;> first | trivial | exact absurd trivial hl
        by_cases hid : s.m k = .none
        · rw [hid]; trivial
        · exact h3 hid
  · have lid : (s.m i).live := by rw [ha]; trivial
    rcases live p hl with rfl | ⟨a1, a2, a3⟩
    · rcases live q hl' with rfl | ⟨b1, b2, b3⟩
      · exact hpq rfl
      · simp only [G', upd_same] at hk1
        simp only [G', upd_ne _ _ _ b1] at hk2
        exact hi.disj i q (fun e => b2 e.symm) lid b3 k hk1 hk2
    · simp only [G', upd_ne _ _ _ a1] at hk1
      rcases live q hl' with rfl | ⟨b1, b2, b3⟩
      · simp only [G', upd_same] at hk2
        exact hi.disj p i a2 a3 lid k hk1 hk2
      · simp only [G', upd_ne _ _ _ b1] at hk2
        exact hi.disj p q hpq a3 b3 k hk1 hk2
end Go.Proofs.YtlhdagpimcafaaaDoor.Ab

/- Chapter 38: UnsatCore and TrimProof, in the program. -/
open Go Go.Proofs Go.RowKit
namespace Go.Proofs.YtlhdagpimcafaaaDoor.Ab
set_option linter.unusedSimpArgs false
set_option linter.unusedVariables false
set_option maxRecDepth 100000
theorem map_erase {α β : Type} (f : α → β) : ∀ (l : List α) (i : Nat), (l.map f).eraseIdx i = (l.eraseIdx i).map f
  | [], _ => rfl
  | x :: l, 0 => rfl
  | x :: l, i + 1 => by
    show f x :: (l.map f).eraseIdx i = f x :: (l.eraseIdx i).map f
    rw [map_erase f l i]
theorem wo_int {l : List Int} {i : Nat} (hi : i < l.length) (hl : l.length ≤ 1048576) : AC Tryd.prog 39 [.d (encIs l), .d (.v (.int .i64 (i : Int)))] (.o 0 (encIs (l.eraseIdx i))) := by
  have h := (erase_ac (f := 39) Tryd.func39 rfl (by decide) (T := 3) (es := l.map encI) (i := i) (by rw [List.length_map]; exact hi) (by rw [List.length_map]; exact hl) (fun e he => by obtain ⟨y, _, rfl⟩ := List.mem_map.1 he; rfl) (fun h1 h2 h3 _ _ h4 h5 h6 h7 => without_int_c h1 h2 h3 h4 h5 h6 h7)).2 (fun e he d hd => by obtain ⟨y, _, rfl⟩ := List.mem_map.1 he; simp only [encI, List.mem_singleton] at hd; subst hd; simp only [D.flat])
  rw [map_erase] at h
  exact h
theorem core_step {α : Type} (ok : List α → Bool) (i : Nat) (l : List α) : coreF ok (i + 1) l = coreF ok i (if ok (l.eraseIdx i) = true then l.eraseIdx i else l) := rfl
theorem dropInt_w {g : FuncId} {c1 c2 c3 : List D} (ok : List Int → Bool) (l : List Int) (hl : l.length ≤ 1048576) (hp : ∀ x, x.length ≤ l.length → AC Tryd.prog g [.d (encIs x), .e c1 0, .e c2 0, .e c3 0] (.d (.v (.bool (ok x))))) (k : Nat) (hk : k ≤ l.length) :
    AW Tryd.prog 22 [.o 5 (encIs l), .d (.v (.int .i64 ((k : Int) - 1))), .f (.func g) [] [.e c1 0, .e c2 0, .e c3 0]] [(5, .tok (encIs l))] (.o 6 (encIs (coreF ok k l))) [(5, .dead), (6, .tok (encIs (coreF ok k l)))] := by
  generalize hR : coreF ok k l = R
  refine AW.intro 64 Tryd.func22 rfl (by decide) ⟨by simp [keysM], by simp [keysM], by simp [S.wfs, S.wf, updl, upd], by simp [wfM, wfB, wfI, S.wfs, S.wf, updl, upd], by simp [S.wf, S.wfs, updl, upd], by simp [wfM, wfB, wfI, S.wfs, S.wf, updl, upd]⟩ (by simp [keysM]) (by simp [Tryd.f22]) ?_; rw [Tryd.ntmps22]; simp only [St.initW, fM, keysM, updl, List.map_cons, List.map_nil]
  repeat (first | refine aq ?_ | refine ap (by rfl : apartB 0 _ _ = true) ?_ | refine ak ?_ | refine ab ?_ | refine al ?_ | ((first | refine ar ?_ | refine ad ty_mix (by kernel_rfl) ?_ | refine ac ?_ | refine ae ?_ | with_reducible refine Later.mk ?_); simp only [evD, evL, iteL, St.said, St.asked, evStep, evOp, evP, St.init, St.app, srcStep, kill, setMany, loadS, fieldS, buildS, toks, Fin, upd_app, Array.isEmpty, Nat.reduceLT, Nat.reduceAdd, Nat.reduceMul, Nat.reduceLeDiff, Nat.reduceSub, Nat.reduceEqDiff, reduceCtorEq, reduceIte, ↓Opt.is, ↓Opt.no, ↓Asks.yes, ↓Asks.no, tyL, encL, asB]))
  refine Ab.weaken (Le.giveO (t := 0) (i := 5) (j := 7) (x := encIs l) (by simp only [evD, evL, iteL, St.said, St.asked, evStep, evOp, evP, St.init, St.app, srcStep, kill, setMany, loadS, fieldS, buildS, toks, Fin, upd_app, Array.isEmpty, Nat.reduceLT, Nat.reduceAdd, Nat.reduceMul, Nat.reduceLeDiff, Nat.reduceSub, Nat.reduceEqDiff, reduceCtorEq, reduceIte, ↓Opt.is, ↓Opt.no, ↓Asks.yes, ↓Asks.no, tyL, encL, mkS, updl]) (by simp only [evD, evL, iteL, St.said, St.asked, evStep, evOp, evP, St.init, St.app, srcStep, kill, setMany, loadS, fieldS, buildS, toks, Fin, upd_app, Array.isEmpty, Nat.reduceLT, Nat.reduceAdd, Nat.reduceMul, Nat.reduceLeDiff, Nat.reduceSub, Nat.reduceEqDiff, reduceCtorEq, reduceIte, ↓Opt.is, ↓Opt.no, ↓Asks.yes, ↓Asks.no, tyL, encL, mkS, updl]) (by simp only [evD, evL, iteL, St.said, St.asked, evStep, evOp, evP, St.init, St.app, srcStep, kill, setMany, loadS, fieldS, buildS, toks, Fin, upd_app, Array.isEmpty, Nat.reduceLT, Nat.reduceAdd, Nat.reduceMul, Nat.reduceLeDiff, Nat.reduceSub, Nat.reduceEqDiff, reduceCtorEq, reduceIte, ↓Opt.is, ↓Opt.no, ↓Asks.yes, ↓Asks.no, tyL, encL, mkS, updl])) ?_
  simp only [evD, evL, iteL, St.said, St.asked, evStep, evOp, evP, St.init, St.app, srcStep, kill, setMany, loadS, fieldS, buildS, toks, Fin, upd_app, Array.isEmpty, Nat.reduceLT, Nat.reduceAdd, Nat.reduceMul, Nat.reduceLeDiff, Nat.reduceSub, Nat.reduceEqDiff, reduceCtorEq, reduceIte, ↓Opt.is, ↓Opt.no, ↓Asks.yes, ↓Asks.no, tyL, encL, mkS, updl]
  refine Ab.loopG (l, k) (fun p => p.2) (fun p => coreF ok p.2 p.1 = R ∧ p.2 ≤ p.1.length ∧ p.1.length ≤ l.length) (fun p => mkS 20 [(0, .o 7 (encIs p.1)), (1, .d (.v (.int .i64 ((p.2 : Int) - 1)))), (2, .f (.func g) [] [.e c1 0, .e c2 0, .e c3 0])] [(5, .dead), (7, .tok (encIs p.1)), (9, .frm [5]), (11, .dead)] 100) ⟨hR, hk, Nat.le_refl _⟩ ?_ ?_
  · ((first | refine Le.mk rfl ?_ ?_ | refine LeTo.mk rfl ?_ ?_) <;> simp only [evD, evL, iteL, St.said, St.asked, evStep, evOp, evP, St.init, St.app, srcStep, kill, setMany, loadS, fieldS, buildS, toks, Fin, upd_app, Array.isEmpty, Nat.reduceLT, Nat.reduceAdd, Nat.reduceMul, Nat.reduceLeDiff, Nat.reduceSub, Nat.reduceEqDiff, reduceCtorEq, reduceIte, ↓Opt.is, ↓Opt.no, ↓Asks.yes, ↓Asks.no, tyL, encL, leL, leD, ne_eq, frL, wfI])
  rintro ⟨m, j⟩ ⟨hm, hj, hml⟩
  simp only at hm hj hml ⊢
  cases j with
  | zero =>
    have hge : ((((0 : Nat) : Int) - 1) ≥ 0) = False := eq_false (by omega)
    have hmR : m = R := hm
    subst hmR
    repeat (first | refine aq ?_ | refine ap (by rfl : apartB 0 _ _ = true) ?_ | refine ak ?_ | refine ab ?_ | refine al ?_ | ((first | refine ar ?_ | refine ad ty_mix (by kernel_rfl) ?_ | refine ac ?_ | refine ae ?_ | with_reducible refine Later.mk ?_); simp only [evD, evL, iteL, St.said, St.asked, evStep, evOp, evP, St.init, St.app, srcStep, kill, setMany, loadS, fieldS, buildS, toks, Fin, upd_app, Array.isEmpty, Nat.reduceLT, Nat.reduceAdd, Nat.reduceMul, Nat.reduceLeDiff, Nat.reduceSub, Nat.reduceEqDiff, reduceCtorEq, reduceIte, ↓Opt.is, ↓Opt.no, ↓Asks.yes, ↓Asks.no, tyL, encL, mkS, updl, hge, asB]))
    refine Ab.weaken (Le.giveO (t := 6) (i := 7) (j := 6) (x := encIs m) (by simp only [evD, evL, iteL, St.said, St.asked, evStep, evOp, evP, St.init, St.app, srcStep, kill, setMany, loadS, fieldS, buildS, toks, Fin, upd_app, Array.isEmpty, Nat.reduceLT, Nat.reduceAdd, Nat.reduceMul, Nat.reduceLeDiff, Nat.reduceSub, Nat.reduceEqDiff, reduceCtorEq, reduceIte, ↓Opt.is, ↓Opt.no, ↓Asks.yes, ↓Asks.no, tyL, encL, mkS, updl]) (by simp only [evD, evL, iteL, St.said, St.asked, evStep, evOp, evP, St.init, St.app, srcStep, kill, setMany, loadS, fieldS, buildS, toks, Fin, upd_app, Array.isEmpty, Nat.reduceLT, Nat.reduceAdd, Nat.reduceMul, Nat.reduceLeDiff, Nat.reduceSub, Nat.reduceEqDiff, reduceCtorEq, reduceIte, ↓Opt.is, ↓Opt.no, ↓Asks.yes, ↓Asks.no, tyL, encL, mkS, updl]) (by simp only [evD, evL, iteL, St.said, St.asked, evStep, evOp, evP, St.init, St.app, srcStep, kill, setMany, loadS, fieldS, buildS, toks, Fin, upd_app, Array.isEmpty, Nat.reduceLT, Nat.reduceAdd, Nat.reduceMul, Nat.reduceLeDiff, Nat.reduceSub, Nat.reduceEqDiff, reduceCtorEq, reduceIte, ↓Opt.is, ↓Opt.no, ↓Asks.yes, ↓Asks.no, tyL, encL, mkS, updl])) ?_
    simp only [evD, evL, iteL, St.said, St.asked, evStep, evOp, evP, St.init, St.app, srcStep, kill, setMany, loadS, fieldS, buildS, toks, Fin, upd_app, Array.isEmpty, Nat.reduceLT, Nat.reduceAdd, Nat.reduceMul, Nat.reduceLeDiff, Nat.reduceSub, Nat.reduceEqDiff, reduceCtorEq, reduceIte, ↓Opt.is, ↓Opt.no, ↓Asks.yes, ↓Asks.no, tyL, encL, mkS, updl]
    refine Ab.ret ?_; simp only [evD, evL, iteL, St.said, St.asked, evStep, evOp, evP, St.init, St.app, srcStep, kill, setMany, loadS, fieldS, buildS, toks, Fin, upd_app, Array.isEmpty, Nat.reduceLT, Nat.reduceAdd, Nat.reduceMul, Nat.reduceLeDiff, Nat.reduceSub, Nat.reduceEqDiff, reduceCtorEq, reduceIte, ↓Opt.is, ↓Opt.no, ↓Asks.yes, ↓Asks.no, tyL, encL, leL, leD, ne_eq, frL, preM, postM, keysM, B.okM, List.mem_cons, List.not_mem_nil, or_false, false_or, true_or, or_true, EndsW, FinW, LeR, oneOf, fM, updl, allM, List.nodup_cons, Tryd.f22]
  | succ i =>
    have e1 : ((i + 1 : Nat) : Int) - 1 = (i : Int) := by omega
    have hge : ((i : Int) ≥ 0) = True := eq_true (by omega)
    have hwd : IntKind.i64.wrap ((i : Int) - 1) = (i : Int) - 1 := by rw [IntKind.wrap_i64]; omega
    have hc := wo_int (l := m) (i := i) (by omega) (by omega)
    have hpx := hp (m.eraseIdx i) (by rw [List.length_eraseIdx]; split <;> omega)
    rw [core_step] at hm
    rw [e1]
    rcases Bool.eq_false_or_eq_true (ok (m.eraseIdx i)) with c | c
    · rw [c] at hpx hm
      rw [if_pos rfl] at hm
      repeat (first | refine aq ?_ | refine ap (by rfl : apartB 0 _ _ = true) ?_ | refine ak ?_ | refine ab ?_ | refine al ?_ | ((first | refine ar ?_ | refine ad ty_mix (by kernel_rfl) ?_ | refine ac ?_ | refine ae ?_ | with_reducible refine Later.mk ?_); simp only [evD, evL, iteL, St.said, St.asked, evStep, evOp, evP, St.init, St.app, srcStep, kill, setMany, loadS, fieldS, buildS, toks, Fin, upd_app, Array.isEmpty, Nat.reduceLT, Nat.reduceAdd, Nat.reduceMul, Nat.reduceLeDiff, Nat.reduceSub, Nat.reduceEqDiff, reduceCtorEq, reduceIte, ↓Opt.is, ↓Opt.no, ↓Asks.yes, ↓Asks.no, tyL, encL, mkS, updl, hge, asB]))
      refine Kw.ac ?_; simp only [evD, evL, iteL, St.said, St.asked, evStep, evOp, evP, St.init, St.app, srcStep, kill, setMany, loadS, fieldS, buildS, toks, Fin, upd_app, Array.isEmpty, Nat.reduceLT, Nat.reduceAdd, Nat.reduceMul, Nat.reduceLeDiff, Nat.reduceSub, Nat.reduceEqDiff, reduceCtorEq, reduceIte, ↓Opt.is, ↓Opt.no, ↓Asks.yes, ↓Asks.no, tyL, encL]
      refine ⟨_, hc, ?_⟩; (repeat (first | refine ap (by rfl : apartB 0 _ _ = true) ?_ | refine ap (by simp [osL, D.flat]) ?_)); repeat (first | refine aq ?_ | refine ap (by rfl : apartB 0 _ _ = true) ?_ | refine ak ?_ | refine ab ?_ | refine al ?_ | ((first | refine ar ?_ | refine ad ty_mix (by kernel_rfl) ?_ | refine ac ?_ | refine ae ?_ | with_reducible refine Later.mk ?_); simp only [evD, evL, iteL, St.said, St.asked, evStep, evOp, evP, St.init, St.app, srcStep, kill, setMany, loadS, fieldS, buildS, toks, Fin, upd_app, Array.isEmpty, Nat.reduceLT, Nat.reduceAdd, Nat.reduceMul, Nat.reduceLeDiff, Nat.reduceSub, Nat.reduceEqDiff, reduceCtorEq, reduceIte, ↓Opt.is, ↓Opt.no, ↓Asks.yes, ↓Asks.no, tyL, encL, asB]))
      refine Kw.ac ?_; simp only [evD, evL, iteL, St.said, St.asked, evStep, evOp, evP, St.init, St.app, srcStep, kill, setMany, loadS, fieldS, buildS, toks, Fin, upd_app, Array.isEmpty, Nat.reduceLT, Nat.reduceAdd, Nat.reduceMul, Nat.reduceLeDiff, Nat.reduceSub, Nat.reduceEqDiff, reduceCtorEq, reduceIte, ↓Opt.is, ↓Opt.no, ↓Asks.yes, ↓Asks.no, tyL, encL]
      refine ⟨_, hpx, ?_⟩; (repeat (first | refine ap (by rfl : apartB 0 _ _ = true) ?_ | refine ap (by simp [osL, D.flat]) ?_)); repeat (first | refine aq ?_ | refine ap (by rfl : apartB 0 _ _ = true) ?_ | refine ak ?_ | refine ab ?_ | refine al ?_ | ((first | refine ar ?_ | refine ad ty_mix (by kernel_rfl) ?_ | refine ac ?_ | refine ae ?_ | with_reducible refine Later.mk ?_); simp only [evD, evL, iteL, St.said, St.asked, evStep, evOp, evP, St.init, St.app, srcStep, kill, setMany, loadS, fieldS, buildS, toks, Fin, upd_app, Array.isEmpty, Nat.reduceLT, Nat.reduceAdd, Nat.reduceMul, Nat.reduceLeDiff, Nat.reduceSub, Nat.reduceEqDiff, reduceCtorEq, reduceIte, ↓Opt.is, ↓Opt.no, ↓Asks.yes, ↓Asks.no, tyL, encL, hwd, asB]))
      have hle : (m.eraseIdx i).length = m.length - 1 := by rw [List.length_eraseIdx, if_pos (by omega)]
      refine ⟨(m.eraseIdx i, i), by simp only; omega, ⟨hm, by simp only; omega, by simp only; omega⟩, ?_⟩
      generalize m.eraseIdx i = X at *
      refine Le.trans (show Le _ (mkS 20 [(0, .o 164 (encIs X)), (1, .d (.v (.int .i64 ((i : Int) - 1)))), (2, .f (.func g) [] [.e c1 0, .e c2 0, .e c3 0])] [(5, .dead), (164, .tok (encIs X)), (9, .frm [5]), (11, .dead)] 324) by ((first | refine Le.mk rfl ?_ ?_ | refine LeTo.mk rfl ?_ ?_) <;> simp only [evD, evL, iteL, St.said, St.asked, evStep, evOp, evP, St.init, St.app, srcStep, kill, setMany, loadS, fieldS, buildS, toks, Fin, upd_app, Array.isEmpty, Nat.reduceLT, Nat.reduceAdd, Nat.reduceMul, Nat.reduceLeDiff, Nat.reduceSub, Nat.reduceEqDiff, reduceCtorEq, reduceIte, ↓Opt.is, ↓Opt.no, ↓Asks.yes, ↓Asks.no, tyL, encL, leL, leD, ne_eq, frL, wfI])) (Le.trans (Le.giveO (t := 0) (i := 164) (j := 7) (x := encIs X) (by simp only [evD, evL, iteL, St.said, St.asked, evStep, evOp, evP, St.init, St.app, srcStep, kill, setMany, loadS, fieldS, buildS, toks, Fin, upd_app, Array.isEmpty, Nat.reduceLT, Nat.reduceAdd, Nat.reduceMul, Nat.reduceLeDiff, Nat.reduceSub, Nat.reduceEqDiff, reduceCtorEq, reduceIte, ↓Opt.is, ↓Opt.no, ↓Asks.yes, ↓Asks.no, tyL, encL, mkS, updl]) (by simp only [evD, evL, iteL, St.said, St.asked, evStep, evOp, evP, St.init, St.app, srcStep, kill, setMany, loadS, fieldS, buildS, toks, Fin, upd_app, Array.isEmpty, Nat.reduceLT, Nat.reduceAdd, Nat.reduceMul, Nat.reduceLeDiff, Nat.reduceSub, Nat.reduceEqDiff, reduceCtorEq, reduceIte, ↓Opt.is, ↓Opt.no, ↓Asks.yes, ↓Asks.no, tyL, encL, mkS, updl]) (by simp only [evD, evL, iteL, St.said, St.asked, evStep, evOp, evP, St.init, St.app, srcStep, kill, setMany, loadS, fieldS, buildS, toks, Fin, upd_app, Array.isEmpty, Nat.reduceLT, Nat.reduceAdd, Nat.reduceMul, Nat.reduceLeDiff, Nat.reduceSub, Nat.reduceEqDiff, reduceCtorEq, reduceIte, ↓Opt.is, ↓Opt.no, ↓Asks.yes, ↓Asks.no, tyL, encL, mkS, updl])) ?_)
      ((first | refine Le.mk rfl ?_ ?_ | refine LeTo.mk rfl ?_ ?_) <;> simp only [evD, evL, iteL, St.said, St.asked, evStep, evOp, evP, St.init, St.app, srcStep, kill, setMany, loadS, fieldS, buildS, toks, Fin, upd_app, Array.isEmpty, Nat.reduceLT, Nat.reduceAdd, Nat.reduceMul, Nat.reduceLeDiff, Nat.reduceSub, Nat.reduceEqDiff, reduceCtorEq, reduceIte, ↓Opt.is, ↓Opt.no, ↓Asks.yes, ↓Asks.no, tyL, encL, leL, leD, ne_eq, mkS, updl, frL, wfI])
    · rw [c] at hpx hm
      rw [if_neg (by simp)] at hm
      repeat (first | refine aq ?_ | refine ap (by rfl : apartB 0 _ _ = true) ?_ | refine ak ?_ | refine ab ?_ | refine al ?_ | ((first | refine ar ?_ | refine ad ty_mix (by kernel_rfl) ?_ | refine ac ?_ | refine ae ?_ | with_reducible refine Later.mk ?_); simp only [evD, evL, iteL, St.said, St.asked, evStep, evOp, evP, St.init, St.app, srcStep, kill, setMany, loadS, fieldS, buildS, toks, Fin, upd_app, Array.isEmpty, Nat.reduceLT, Nat.reduceAdd, Nat.reduceMul, Nat.reduceLeDiff, Nat.reduceSub, Nat.reduceEqDiff, reduceCtorEq, reduceIte, ↓Opt.is, ↓Opt.no, ↓Asks.yes, ↓Asks.no, tyL, encL, mkS, updl, hge, asB]))
      refine Kw.ac ?_; simp only [evD, evL, iteL, St.said, St.asked, evStep, evOp, evP, St.init, St.app, srcStep, kill, setMany, loadS, fieldS, buildS, toks, Fin, upd_app, Array.isEmpty, Nat.reduceLT, Nat.reduceAdd, Nat.reduceMul, Nat.reduceLeDiff, Nat.reduceSub, Nat.reduceEqDiff, reduceCtorEq, reduceIte, ↓Opt.is, ↓Opt.no, ↓Asks.yes, ↓Asks.no, tyL, encL]
      refine ⟨_, hc, ?_⟩; (repeat (first | refine ap (by rfl : apartB 0 _ _ = true) ?_ | refine ap (by simp [osL, D.flat]) ?_)); repeat (first | refine aq ?_ | refine ap (by rfl : apartB 0 _ _ = true) ?_ | refine ak ?_ | refine ab ?_ | refine al ?_ | ((first | refine ar ?_ | refine ad ty_mix (by kernel_rfl) ?_ | refine ac ?_ | refine ae ?_ | with_reducible refine Later.mk ?_); simp only [evD, evL, iteL, St.said, St.asked, evStep, evOp, evP, St.init, St.app, srcStep, kill, setMany, loadS, fieldS, buildS, toks, Fin, upd_app, Array.isEmpty, Nat.reduceLT, Nat.reduceAdd, Nat.reduceMul, Nat.reduceLeDiff, Nat.reduceSub, Nat.reduceEqDiff, reduceCtorEq, reduceIte, ↓Opt.is, ↓Opt.no, ↓Asks.yes, ↓Asks.no, tyL, encL, asB]))
      refine Kw.ac ?_; simp only [evD, evL, iteL, St.said, St.asked, evStep, evOp, evP, St.init, St.app, srcStep, kill, setMany, loadS, fieldS, buildS, toks, Fin, upd_app, Array.isEmpty, Nat.reduceLT, Nat.reduceAdd, Nat.reduceMul, Nat.reduceLeDiff, Nat.reduceSub, Nat.reduceEqDiff, reduceCtorEq, reduceIte, ↓Opt.is, ↓Opt.no, ↓Asks.yes, ↓Asks.no, tyL, encL]
      refine ⟨_, hpx, ?_⟩; (repeat (first | refine ap (by rfl : apartB 0 _ _ = true) ?_ | refine ap (by simp [osL, D.flat]) ?_)); repeat (first | refine aq ?_ | refine ap (by rfl : apartB 0 _ _ = true) ?_ | refine ak ?_ | refine ab ?_ | refine al ?_ | ((first | refine ar ?_ | refine ad ty_mix (by kernel_rfl) ?_ | refine ac ?_ | refine ae ?_ | with_reducible refine Later.mk ?_); simp only [evD, evL, iteL, St.said, St.asked, evStep, evOp, evP, St.init, St.app, srcStep, kill, setMany, loadS, fieldS, buildS, toks, Fin, upd_app, Array.isEmpty, Nat.reduceLT, Nat.reduceAdd, Nat.reduceMul, Nat.reduceLeDiff, Nat.reduceSub, Nat.reduceEqDiff, reduceCtorEq, reduceIte, ↓Opt.is, ↓Opt.no, ↓Asks.yes, ↓Asks.no, tyL, encL, hwd, asB]))
      refine ⟨(m, i), by simp only; omega, ⟨hm, by simp only; omega, hml⟩, ?_⟩
      ((first | refine Le.mk rfl ?_ ?_ | refine LeTo.mk rfl ?_ ?_) <;> simp only [evD, evL, iteL, St.said, St.asked, evStep, evOp, evP, St.init, St.app, srcStep, kill, setMany, loadS, fieldS, buildS, toks, Fin, upd_app, Array.isEmpty, Nat.reduceLT, Nat.reduceAdd, Nat.reduceMul, Nat.reduceLeDiff, Nat.reduceSub, Nat.reduceEqDiff, reduceCtorEq, reduceIte, ↓Opt.is, ↓Opt.no, ↓Asks.yes, ↓Asks.no, tyL, encL, leL, leD, ne_eq, frL, wfI])
def okU (n : Int) (L P : List (List Int)) (x : List Int) : Bool := prfV n (selC L x) P
def rngI (m : Nat) : List Int := (List.range m).map fun k : Nat => (k : Int)
theorem rngI_len (m : Nat) : (rngI m).length = m := by simp [rngI]
theorem rngI_get {m i : Nat} (h : i < (rngI m).length) : (rngI m)[i] = (i : Int) := by simp [rngI]
def ucL (n : Int) (L P : List (List Int)) : List Int := if prfV n L P = true then coreF (okU n L P) L.length (rngI L.length) else []
theorem selC_bounds {L : List (List Int)} (gL : (eSlice (eSlice eInt)).good L) (hb : ∀ b, b ∈ L → b.length ≤ 1048576) {x : List Int} (hx : x.length ≤ 1048576) : (selC L x).length ≤ 1048576 ∧ (∀ b, b ∈ selC L x → b.length ≤ 1048576) ∧ ∀ b, b ∈ selC L x → ∀ y, y ∈ b → inR y :=
  ⟨Nat.le_trans (selC_len L x) hx, selC_each x hb, fun b hb => ((selC_good hx gL).2 b hb).2⟩
theorem ucOk_a {n : Int} {L P : List (List Int)} (gL : (eSlice (eSlice eInt)).good L) (gP : (eSlice (eSlice eInt)).good P) (hL : L.length ≤ 1048576) (hb : ∀ b, b ∈ L → b.length ≤ 1048576) (hP : P.length ≤ 1048576) (hbP : ∀ b, b ∈ P → b.length ≤ 1048576) {x : List Int} (hx : x.length ≤ 1048576) :
    AC Tryd.prog 23 [.d (encIs x), .e [.v (.int .i64 n)] 0, .e [encIss L] 0, .e [encIss P] 0] (.d (.v (.bool (okU n L P x)))) := by
  have hc1 := implSelectClauses_a L x hL hb hx
  obtain ⟨s1, s2, s3⟩ := selC_bounds gL hb hx
  have hc2 := implIsValidProof_a (n := n) s1 s2 s3 hP hbP (fun b hb => (gP.2 b hb).2)
  unfold okU
  refine AC.intro Tryd.func23 rfl (by decide) (by simp [S.res, S.ress]) (by simp [S.os, S.oss]) (by simp [S.wfs, S.wf, dbS]) (by simp [Tryd.f23]) ?_; rw [Tryd.ntmps23]
  repeat (first | refine aq ?_ | refine ap (by rfl : apartB 0 _ _ = true) ?_ | refine ak ?_ | refine ab ?_ | refine al ?_ | ((first | refine ar ?_ | refine ad ty_mix (by kernel_rfl) ?_ | refine ac ?_ | refine ae ?_ | with_reducible refine Later.mk ?_); simp only [evD, evL, iteL, St.said, St.asked, evStep, evOp, evP, St.init, St.app, srcStep, kill, setMany, loadS, fieldS, buildS, toks, Fin, upd_app, Array.isEmpty, Nat.reduceLT, Nat.reduceAdd, Nat.reduceMul, Nat.reduceLeDiff, Nat.reduceSub, Nat.reduceEqDiff, reduceCtorEq, reduceIte, ↓Opt.is, ↓Opt.no, ↓Asks.yes, ↓Asks.no, tyL, encL, asB]))
  refine ⟨_, hc1, ?_⟩; (repeat (first | refine ap (by rfl : apartB 0 _ _ = true) ?_ | refine ap (by simp [osL, D.flat]) ?_)); repeat (first | refine aq ?_ | refine ap (by rfl : apartB 0 _ _ = true) ?_ | refine ak ?_ | refine ab ?_ | refine al ?_ | ((first | refine ar ?_ | refine ad ty_mix (by kernel_rfl) ?_ | refine ac ?_ | refine ae ?_ | with_reducible refine Later.mk ?_); simp only [evD, evL, iteL, St.said, St.asked, evStep, evOp, evP, St.init, St.app, srcStep, kill, setMany, loadS, fieldS, buildS, toks, Fin, upd_app, Array.isEmpty, Nat.reduceLT, Nat.reduceAdd, Nat.reduceMul, Nat.reduceLeDiff, Nat.reduceSub, Nat.reduceEqDiff, reduceCtorEq, reduceIte, ↓Opt.is, ↓Opt.no, ↓Asks.yes, ↓Asks.no, tyL, encL, asB]))
  refine ⟨_, hc2, ?_⟩; (repeat (first | refine ap (by rfl : apartB 0 _ _ = true) ?_ | refine ap (by simp [osL, D.flat]) ?_)); repeat (first | refine aq ?_ | refine ap (by rfl : apartB 0 _ _ = true) ?_ | refine ak ?_ | refine ab ?_ | refine al ?_ | ((first | refine ar ?_ | refine ad ty_mix (by kernel_rfl) ?_ | refine ac ?_ | refine ae ?_ | with_reducible refine Later.mk ?_); simp only [evD, evL, iteL, St.said, St.asked, evStep, evOp, evP, St.init, St.app, srcStep, kill, setMany, loadS, fieldS, buildS, toks, Fin, upd_app, Array.isEmpty, Nat.reduceLT, Nat.reduceAdd, Nat.reduceMul, Nat.reduceLeDiff, Nat.reduceSub, Nat.reduceEqDiff, reduceCtorEq, reduceIte, ↓Opt.is, ↓Opt.no, ↓Asks.yes, ↓Asks.no, tyL, encL, asB]))
  refine Ab.ret ?_; simp only [evD, evL, iteL, St.said, St.asked, evStep, evOp, evP, St.init, St.app, srcStep, kill, setMany, loadS, fieldS, buildS, toks, Fin, upd_app, Array.isEmpty, Nat.reduceLT, Nat.reduceAdd, Nat.reduceMul, Nat.reduceLeDiff, Nat.reduceSub, Nat.reduceEqDiff, reduceCtorEq, reduceIte, ↓Opt.is, ↓Opt.no, ↓Asks.yes, ↓Asks.no, tyL, List.nodup_cons, encL, Tryd.f23]
theorem rng_set {m i : Nat} (h : i < m) : ((rngI m).take i ++ List.replicate (m - i) (0 : Int)).map encI = ((rngI m).take i).map encI ++ List.replicate (m - i) [.v (.int .i64 0)] := by
  rw [List.map_append, List.map_replicate]; rfl
theorem implUnsatCore_a {n : Int} {L P : List (List Int)} (gL : (eSlice (eSlice eInt)).good L) (gP : (eSlice (eSlice eInt)).good P) (hL : L.length ≤ 1048576) (hb : ∀ b, b ∈ L → b.length ≤ 1048576) (hP : P.length ≤ 1048576) (hbP : ∀ b, b ∈ P → b.length ≤ 1048576) :
    AC Tryd.prog 8 [.d (.v (.int .i64 n)), .d (encIss L), .d (encIss P)] (.o 0 (encIs (ucL n L P))) := by
  have hc1 := implIsValidProof_a (n := n) hL hb (fun b hb => (gL.2 b hb).2) hP hbP (fun b hb => (gP.2 b hb).2)
  unfold ucL
  rcases Bool.eq_false_or_eq_true (prfV n L P) with hd | hd
  · rw [hd] at hc1 ⊢
    rw [if_pos rfl]
    refine AC.intro Tryd.func8 rfl (by decide) (by simp [S.res, S.ress]) (by simp [S.os, S.oss]) (by simp [S.wfs, S.wf, dbS]) (by simp [Tryd.f8]) ?_; rw [Tryd.ntmps8]
    refine Ab.seq (Ab.region' ?_)
    simp only [evD, evL, iteL, St.said, St.asked, evStep, evOp, evP, St.init, St.app, srcStep, kill, setMany, loadS, fieldS, buildS, toks, Fin, upd_app, Array.isEmpty, Nat.reduceLT, Nat.reduceAdd, Nat.reduceMul, Nat.reduceLeDiff, Nat.reduceSub, Nat.reduceEqDiff, reduceCtorEq, reduceIte, ↓Opt.is, ↓Opt.no, ↓Asks.yes, ↓Asks.no, tyL, encL]
    refine Ab.weaken (Le.freeze (id := 0) (t := 3) (ds := [.v (.int .i64 n)]) (by simp only [evD, evL, iteL, St.said, St.asked, evStep, evOp, evP, St.init, St.app, srcStep, kill, setMany, loadS, fieldS, buildS, toks, Fin, upd_app, Array.isEmpty, Nat.reduceLT, Nat.reduceAdd, Nat.reduceMul, Nat.reduceLeDiff, Nat.reduceSub, Nat.reduceEqDiff, reduceCtorEq, reduceIte, ↓Opt.is, ↓Opt.no, ↓Asks.yes, ↓Asks.no, tyL, encL, mkS, updl]) (by simp only [evD, evL, iteL, St.said, St.asked, evStep, evOp, evP, St.init, St.app, srcStep, kill, setMany, loadS, fieldS, buildS, toks, Fin, upd_app, Array.isEmpty, Nat.reduceLT, Nat.reduceAdd, Nat.reduceMul, Nat.reduceLeDiff, Nat.reduceSub, Nat.reduceEqDiff, reduceCtorEq, reduceIte, ↓Opt.is, ↓Opt.no, ↓Asks.yes, ↓Asks.no, tyL, encL, mkS, updl])) ?_
    simp only [evD, evL, iteL, St.said, St.asked, evStep, evOp, evP, St.init, St.app, srcStep, kill, setMany, loadS, fieldS, buildS, toks, Fin, upd_app, Array.isEmpty, Nat.reduceLT, Nat.reduceAdd, Nat.reduceMul, Nat.reduceLeDiff, Nat.reduceSub, Nat.reduceEqDiff, reduceCtorEq, reduceIte, ↓Opt.is, ↓Opt.no, ↓Asks.yes, ↓Asks.no, tyL, encL, mkS, updl]
    refine Ab.weaken (Le.freeze (id := 16) (t := 4) (ds := [.sl (L.map encB)]) (by simp only [evD, evL, iteL, St.said, St.asked, evStep, evOp, evP, St.init, St.app, srcStep, kill, setMany, loadS, fieldS, buildS, toks, Fin, upd_app, Array.isEmpty, Nat.reduceLT, Nat.reduceAdd, Nat.reduceMul, Nat.reduceLeDiff, Nat.reduceSub, Nat.reduceEqDiff, reduceCtorEq, reduceIte, ↓Opt.is, ↓Opt.no, ↓Asks.yes, ↓Asks.no, tyL, encL, mkS, updl]) (by simp only [evD, evL, iteL, St.said, St.asked, evStep, evOp, evP, St.init, St.app, srcStep, kill, setMany, loadS, fieldS, buildS, toks, Fin, upd_app, Array.isEmpty, Nat.reduceLT, Nat.reduceAdd, Nat.reduceMul, Nat.reduceLeDiff, Nat.reduceSub, Nat.reduceEqDiff, reduceCtorEq, reduceIte, ↓Opt.is, ↓Opt.no, ↓Asks.yes, ↓Asks.no, tyL, encL, mkS, updl])) ?_
    simp only [evD, evL, iteL, St.said, St.asked, evStep, evOp, evP, St.init, St.app, srcStep, kill, setMany, loadS, fieldS, buildS, toks, Fin, upd_app, Array.isEmpty, Nat.reduceLT, Nat.reduceAdd, Nat.reduceMul, Nat.reduceLeDiff, Nat.reduceSub, Nat.reduceEqDiff, reduceCtorEq, reduceIte, ↓Opt.is, ↓Opt.no, ↓Asks.yes, ↓Asks.no, tyL, encL, mkS, updl]
    refine Ab.weaken (Le.freeze (id := 32) (t := 5) (ds := [.sl (P.map encB)]) (by simp only [evD, evL, iteL, St.said, St.asked, evStep, evOp, evP, St.init, St.app, srcStep, kill, setMany, loadS, fieldS, buildS, toks, Fin, upd_app, Array.isEmpty, Nat.reduceLT, Nat.reduceAdd, Nat.reduceMul, Nat.reduceLeDiff, Nat.reduceSub, Nat.reduceEqDiff, reduceCtorEq, reduceIte, ↓Opt.is, ↓Opt.no, ↓Asks.yes, ↓Asks.no, tyL, encL, mkS, updl]) (by simp only [evD, evL, iteL, St.said, St.asked, evStep, evOp, evP, St.init, St.app, srcStep, kill, setMany, loadS, fieldS, buildS, toks, Fin, upd_app, Array.isEmpty, Nat.reduceLT, Nat.reduceAdd, Nat.reduceMul, Nat.reduceLeDiff, Nat.reduceSub, Nat.reduceEqDiff, reduceCtorEq, reduceIte, ↓Opt.is, ↓Opt.no, ↓Asks.yes, ↓Asks.no, tyL, encL, mkS, updl])) ?_
    simp only [evD, evL, iteL, St.said, St.asked, evStep, evOp, evP, St.init, St.app, srcStep, kill, setMany, loadS, fieldS, buildS, toks, Fin, upd_app, Array.isEmpty, Nat.reduceLT, Nat.reduceAdd, Nat.reduceMul, Nat.reduceLeDiff, Nat.reduceSub, Nat.reduceEqDiff, reduceCtorEq, reduceIte, ↓Opt.is, ↓Opt.no, ↓Asks.yes, ↓Asks.no, tyL, encL, mkS, updl]
    refine Ab.weaken (Le.flag (by simp only [evD, evL, iteL, St.said, St.asked, evStep, evOp, evP, St.init, St.app, srcStep, kill, setMany, loadS, fieldS, buildS, toks, Fin, upd_app, Array.isEmpty, Nat.reduceLT, Nat.reduceAdd, Nat.reduceMul, Nat.reduceLeDiff, Nat.reduceSub, Nat.reduceEqDiff, reduceCtorEq, reduceIte, ↓Opt.is, ↓Opt.no, ↓Asks.yes, ↓Asks.no, tyL, encL, mkS, updl])) ?_
    simp only [evD, evL, iteL, St.said, St.asked, evStep, evOp, evP, St.init, St.app, srcStep, kill, setMany, loadS, fieldS, buildS, toks, Fin, upd_app, Array.isEmpty, Nat.reduceLT, Nat.reduceAdd, Nat.reduceMul, Nat.reduceLeDiff, Nat.reduceSub, Nat.reduceEqDiff, reduceCtorEq, reduceIte, ↓Opt.is, ↓Opt.no, ↓Asks.yes, ↓Asks.no, tyL, encL, mkS, updl]
    repeat (first | refine aq ?_ | refine ap (by rfl : apartB 0 _ _ = true) ?_ | refine ak ?_ | refine ab ?_ | refine al ?_ | ((first | refine ar ?_ | refine ad ty_mix (by kernel_rfl) ?_ | refine ac ?_ | refine ae ?_ | with_reducible refine Later.mk ?_); simp only [evD, evL, iteL, St.said, St.asked, evStep, evOp, evP, St.init, St.app, srcStep, kill, setMany, loadS, fieldS, buildS, toks, Fin, upd_app, Array.isEmpty, Nat.reduceLT, Nat.reduceAdd, Nat.reduceMul, Nat.reduceLeDiff, Nat.reduceSub, Nat.reduceEqDiff, reduceCtorEq, reduceIte, ↓Opt.is, ↓Opt.no, ↓Asks.yes, ↓Asks.no, tyL, encL, asB]))
    refine Kw.ac ?_; simp only [evD, evL, iteL, St.said, St.asked, evStep, evOp, evP, St.init, St.app, srcStep, kill, setMany, loadS, fieldS, buildS, toks, Fin, upd_app, Array.isEmpty, Nat.reduceLT, Nat.reduceAdd, Nat.reduceMul, Nat.reduceLeDiff, Nat.reduceSub, Nat.reduceEqDiff, reduceCtorEq, reduceIte, ↓Opt.is, ↓Opt.no, ↓Asks.yes, ↓Asks.no, tyL, encL]
    refine ⟨_, hc1, ?_⟩; (repeat (first | refine ap (by rfl : apartB 0 _ _ = true) ?_ | refine ap (by simp [osL, D.flat]) ?_)); repeat (first | refine aq ?_ | refine ap (by rfl : apartB 0 _ _ = true) ?_ | refine ak ?_ | refine ab ?_ | refine al ?_ | ((first | refine ar ?_ | refine ad ty_mix (by kernel_rfl) ?_ | refine ac ?_ | refine ae ?_ | with_reducible refine Later.mk ?_); simp only [evD, evL, iteL, St.said, St.asked, evStep, evOp, evP, St.init, St.app, srcStep, kill, setMany, loadS, fieldS, buildS, toks, Fin, upd_app, Array.isEmpty, Nat.reduceLT, Nat.reduceAdd, Nat.reduceMul, Nat.reduceLeDiff, Nat.reduceSub, Nat.reduceEqDiff, reduceCtorEq, reduceIte, ↓Opt.is, ↓Opt.no, ↓Asks.yes, ↓Asks.no, tyL, encL, asB]))
    have hdw := dropInt_w (g := 23) (c1 := [.v (.int .i64 n)]) (c2 := [encIss L]) (c3 := [encIss P]) (okU n L P) (rngI L.length) (by rw [rngI_len]; exact hL) (fun x hx => ucOk_a gL gP hL hb hP hbP (by rw [rngI_len] at hx; omega)) L.length (by rw [rngI_len]; exact Nat.le_refl _)
    refine ⟨by intro d hd; subst hd; simp only [D.flat], by omega, by simp only [maxLen]; omega, ?_⟩
    have hwl : IntKind.i64.wrap ((L.length : Int) - 1) = (L.length : Int) - 1 := by rw [IntKind.wrap_i64]; omega
    have mk1 := fun i h => mkA encI (fun k : Nat => (k : Int)) (List.range L.length) i [.v (.int .i64 0)] h
    have mk2 := fun i h => mkA_set encI (fun k : Nat => (k : Int)) (List.range L.length) i [.v (.int .i64 0)] h
    have mk3 := fun i h => mkA_len encI (fun k : Nat => (k : Int)) (List.range L.length) i [.v (.int .i64 0)] h
    simp only [List.length_range, List.getElem_range] at mk1 mk2 mk3
    have hrl : ((List.range L.length).take L.length).map (fun k : Nat => (k : Int)) = rngI L.length := by rw [List.take_of_length_le (by simp)]; rfl
    generalize okU n L P = OK at *
    unfold encIss at hdw
    have hml : L.length ≤ 1048576 := hL
    clear hc1 hd hb hbP hL
    generalize hm : L.length = m at *
    repeat (first | refine aq ?_ | refine ap (by rfl : apartB 0 _ _ = true) ?_ | refine ak ?_ | refine ab ?_ | refine al ?_ | ((first | refine ar ?_ | refine ad ty_mix (by kernel_rfl) ?_ | refine ac ?_ | refine ae ?_ | with_reducible refine Later.mk ?_); simp only [evD, evL, iteL, St.said, St.asked, evStep, evOp, evP, St.init, St.app, srcStep, kill, setMany, loadS, fieldS, buildS, toks, Fin, upd_app, Array.isEmpty, Nat.reduceLT, Nat.reduceAdd, Nat.reduceMul, Nat.reduceLeDiff, Nat.reduceSub, Nat.reduceEqDiff, reduceCtorEq, reduceIte, ↓Opt.is, ↓Opt.no, ↓Asks.yes, ↓Asks.no, tyL, encL, List.length_replicate, asB]))
    refine Ab.loopI m (fun _ => True) (fun i => mkS 33 [(3, .e [.v (.int .i64 n)] 0), (4, .e [.sl (List.map encB L)] 0), (5, .e [.sl (List.map encB P)] 0), (7, .m 176), (18, .d (.v (.int .i64 (m : Int)))), (19, .d (.v (.int .i64 (i : Int))))] [(176, .arr true 3 1 ((((List.range m).take i).map (fun k : Nat => (k : Int))).map encI ++ List.replicate (m - i) [.v (.int .i64 0)])), (11, .dead)] 256) trivial ?_ ?_
    · ((first | refine Le.mk rfl ?_ ?_ | refine LeTo.mk rfl ?_ ?_) <;> simp only [evD, evL, iteL, St.said, St.asked, evStep, evOp, evP, St.init, St.app, srcStep, kill, setMany, loadS, fieldS, buildS, toks, Fin, upd_app, Array.isEmpty, Nat.reduceLT, Nat.reduceAdd, Nat.reduceMul, Nat.reduceLeDiff, Nat.reduceSub, Nat.reduceEqDiff, reduceCtorEq, reduceIte, ↓Opt.is, ↓Opt.no, ↓Asks.yes, ↓Asks.no, tyL, encL, leL, leD, ne_eq, List.take_zero, List.map_nil, List.nil_append, Nat.sub_zero, List.length_replicate])
    intro i hi _
    repeat (first | refine aq ?_ | refine ap (by rfl : apartB 0 _ _ = true) ?_ | refine ak ?_ | refine ab ?_ | refine al ?_ | ((first | refine ar ?_ | refine ad ty_mix (by kernel_rfl) ?_ | refine ac ?_ | refine ae ?_ | with_reducible refine Later.mk ?_); simp only [evD, evL, iteL, St.said, St.asked, evStep, evOp, evP, St.init, St.app, srcStep, kill, setMany, loadS, fieldS, buildS, toks, Fin, upd_app, Array.isEmpty, Nat.reduceLT, Nat.reduceAdd, Nat.reduceMul, Nat.reduceLeDiff, Nat.reduceSub, Nat.reduceEqDiff, reduceCtorEq, reduceIte, ↓Opt.is, ↓Opt.no, ↓Asks.yes, ↓Asks.no, tyL, encL, mkS, updl, asB]))
    refine ⟨fun h => ?_, fun h => ?_⟩
    · have h : i < m := by simpa using h
      have hw := wrapN h (by omega)
      have he := mk1 i h
      have hs := mk2 i h
      have hn := mk3 i hi
      generalize (((List.range m).take i).map (fun k : Nat => (k : Int))).map encI ++ List.replicate (m - i) [.v (.int .i64 0)] = U at *
      repeat (first | refine aq ?_ | refine ap (by rfl : apartB 0 _ _ = true) ?_ | refine ak ?_ | refine ab ?_ | refine al ?_ | ((first | refine ar ?_ | refine ad ty_mix (by kernel_rfl) ?_ | refine ac ?_ | refine ae ?_ | with_reducible refine Later.mk ?_); simp only [evD, evL, iteL, St.said, St.asked, evStep, evOp, evP, St.init, St.app, srcStep, kill, setMany, loadS, fieldS, buildS, toks, Fin, upd_app, Array.isEmpty, Nat.reduceLT, Nat.reduceAdd, Nat.reduceMul, Nat.reduceLeDiff, Nat.reduceSub, Nat.reduceEqDiff, reduceCtorEq, reduceIte, ↓Opt.is, ↓Opt.no, ↓Asks.yes, ↓Asks.no, tyL, encL, he, hn, h, Int.ofNat_lt, List.set_cons_zero, hw, asB]))

      try refine ⟨h, ?_⟩
      ((first | refine Le.mk rfl ?_ ?_ | refine LeTo.mk rfl ?_ ?_) <;> simp only [evD, evL, iteL, St.said, St.asked, evStep, evOp, evP, St.init, St.app, srcStep, kill, setMany, loadS, fieldS, buildS, toks, Fin, upd_app, Array.isEmpty, Nat.reduceLT, Nat.reduceAdd, Nat.reduceMul, Nat.reduceLeDiff, Nat.reduceSub, Nat.reduceEqDiff, reduceCtorEq, reduceIte, ↓Opt.is, ↓Opt.no, ↓Asks.yes, ↓Asks.no, tyL, encL, leL, leD, ne_eq])
      exact hs.symm
    · have h : i = m := by have := of_decide_eq_false h; omega
      subst h
      rw [hrl, Nat.sub_self, List.replicate_zero, List.append_nil]
      refine Ab.weaken (Le.tokA (t := 7) (i := 176) (j := 5) (n := 1) (e := 3) (es := (rngI i).map encI) (by simp only [evD, evL, iteL, St.said, St.asked, evStep, evOp, evP, St.init, St.app, srcStep, kill, setMany, loadS, fieldS, buildS, toks, Fin, upd_app, Array.isEmpty, Nat.reduceLT, Nat.reduceAdd, Nat.reduceMul, Nat.reduceLeDiff, Nat.reduceSub, Nat.reduceEqDiff, reduceCtorEq, reduceIte, ↓Opt.is, ↓Opt.no, ↓Asks.yes, ↓Asks.no, tyL, encL, mkS, updl]) (by simp only [evD, evL, iteL, St.said, St.asked, evStep, evOp, evP, St.init, St.app, srcStep, kill, setMany, loadS, fieldS, buildS, toks, Fin, upd_app, Array.isEmpty, Nat.reduceLT, Nat.reduceAdd, Nat.reduceMul, Nat.reduceLeDiff, Nat.reduceSub, Nat.reduceEqDiff, reduceCtorEq, reduceIte, ↓Opt.is, ↓Opt.no, ↓Asks.yes, ↓Asks.no, tyL, encL, mkS, updl]) (by simp only [evD, evL, iteL, St.said, St.asked, evStep, evOp, evP, St.init, St.app, srcStep, kill, setMany, loadS, fieldS, buildS, toks, Fin, upd_app, Array.isEmpty, Nat.reduceLT, Nat.reduceAdd, Nat.reduceMul, Nat.reduceLeDiff, Nat.reduceSub, Nat.reduceEqDiff, reduceCtorEq, reduceIte, ↓Opt.is, ↓Opt.no, ↓Asks.yes, ↓Asks.no, tyL, encL, mkS, updl]) (show (7 : Nat) < 33 by decide)) ?_
      simp only [evD, evL, iteL, St.said, St.asked, evStep, evOp, evP, St.init, St.app, srcStep, kill, setMany, loadS, fieldS, buildS, toks, Fin, upd_app, Array.isEmpty, Nat.reduceLT, Nat.reduceAdd, Nat.reduceMul, Nat.reduceLeDiff, Nat.reduceSub, Nat.reduceEqDiff, reduceCtorEq, reduceIte, ↓Opt.is, ↓Opt.no, ↓Asks.yes, ↓Asks.no, tyL, encL, mkS, updl]
      repeat (first | refine aq ?_ | refine ap (by rfl : apartB 0 _ _ = true) ?_ | refine ak ?_ | refine ab ?_ | refine al ?_ | ((first | refine ar ?_ | refine ad ty_mix (by kernel_rfl) ?_ | refine ac ?_ | refine ae ?_ | with_reducible refine Later.mk ?_); simp only [evD, evL, iteL, St.said, St.asked, evStep, evOp, evP, St.init, St.app, srcStep, kill, setMany, loadS, fieldS, buildS, toks, Fin, upd_app, Array.isEmpty, Nat.reduceLT, Nat.reduceAdd, Nat.reduceMul, Nat.reduceLeDiff, Nat.reduceSub, Nat.reduceEqDiff, reduceCtorEq, reduceIte, ↓Opt.is, ↓Opt.no, ↓Asks.yes, ↓Asks.no, tyL, encL, rngI_len, hwl, asB]))

      refine Kw.aw ⟨_, _, _, _, hdw, ?_⟩; simp only [evD, evL, iteL, St.said, St.asked, evStep, evOp, evP, St.init, St.app, srcStep, kill, setMany, loadS, fieldS, buildS, toks, Fin, upd_app, Array.isEmpty, Nat.reduceLT, Nat.reduceAdd, Nat.reduceMul, Nat.reduceLeDiff, Nat.reduceSub, Nat.reduceEqDiff, reduceCtorEq, reduceIte, ↓Opt.is, ↓Opt.no, ↓Asks.yes, ↓Asks.no, tyL, encL, leL, leD, ne_eq, frL, preM, postM, keysM, B.okM, List.mem_cons, List.not_mem_nil, or_false, false_or, true_or, or_true]; repeat (first | refine aq ?_ | refine ap (by rfl : apartB 0 _ _ = true) ?_ | refine ak ?_ | refine ab ?_ | refine al ?_ | ((first | refine ar ?_ | refine ad ty_mix (by kernel_rfl) ?_ | refine ac ?_ | refine ae ?_ | with_reducible refine Later.mk ?_); simp only [evD, evL, iteL, St.said, St.asked, evStep, evOp, evP, St.init, St.app, srcStep, kill, setMany, loadS, fieldS, buildS, toks, Fin, upd_app, Array.isEmpty, Nat.reduceLT, Nat.reduceAdd, Nat.reduceMul, Nat.reduceLeDiff, Nat.reduceSub, Nat.reduceEqDiff, reduceCtorEq, reduceIte, ↓Opt.is, ↓Opt.no, ↓Asks.yes, ↓Asks.no, tyL, encL, asB]))
      refine Ab.ret ?_; simp only [evD, evL, iteL, St.said, St.asked, evStep, evOp, evP, St.init, St.app, srcStep, kill, setMany, loadS, fieldS, buildS, toks, Fin, upd_app, Array.isEmpty, Nat.reduceLT, Nat.reduceAdd, Nat.reduceMul, Nat.reduceLeDiff, Nat.reduceSub, Nat.reduceEqDiff, reduceCtorEq, reduceIte, ↓Opt.is, ↓Opt.no, ↓Asks.yes, ↓Asks.no, tyL, List.nodup_cons, encL, Tryd.f8]
  · rw [hd] at hc1 ⊢
    rw [if_neg (by simp)]
    refine AC.intro Tryd.func8 rfl (by decide) (by simp [S.res, S.ress]) (by simp [S.os, S.oss]) (by simp [S.wfs, S.wf, dbS]) (by simp [Tryd.f8]) ?_; rw [Tryd.ntmps8]
    repeat (first | refine aq ?_ | refine ap (by rfl : apartB 0 _ _ = true) ?_ | refine ak ?_ | refine ab ?_ | refine al ?_ | ((first | refine ar ?_ | refine ad ty_mix (by kernel_rfl) ?_ | refine ac ?_ | refine ae ?_ | with_reducible refine Later.mk ?_); simp only [evD, evL, iteL, St.said, St.asked, evStep, evOp, evP, St.init, St.app, srcStep, kill, setMany, loadS, fieldS, buildS, toks, Fin, upd_app, Array.isEmpty, Nat.reduceLT, Nat.reduceAdd, Nat.reduceMul, Nat.reduceLeDiff, Nat.reduceSub, Nat.reduceEqDiff, reduceCtorEq, reduceIte, ↓Opt.is, ↓Opt.no, ↓Asks.yes, ↓Asks.no, tyL, encL, asB]))
    refine ⟨_, hc1, ?_⟩; (repeat (first | refine ap (by rfl : apartB 0 _ _ = true) ?_ | refine ap (by simp [osL, D.flat]) ?_)); repeat (first | refine aq ?_ | refine ap (by rfl : apartB 0 _ _ = true) ?_ | refine ak ?_ | refine ab ?_ | refine al ?_ | ((first | refine ar ?_ | refine ad ty_mix (by kernel_rfl) ?_ | refine ac ?_ | refine ae ?_ | with_reducible refine Later.mk ?_); simp only [evD, evL, iteL, St.said, St.asked, evStep, evOp, evP, St.init, St.app, srcStep, kill, setMany, loadS, fieldS, buildS, toks, Fin, upd_app, Array.isEmpty, Nat.reduceLT, Nat.reduceAdd, Nat.reduceMul, Nat.reduceLeDiff, Nat.reduceSub, Nat.reduceEqDiff, reduceCtorEq, reduceIte, ↓Opt.is, ↓Opt.no, ↓Asks.yes, ↓Asks.no, tyL, encL, asB]))
    refine Ab.ret ?_; simp only [evD, evL, iteL, St.said, St.asked, evStep, evOp, evP, St.init, St.app, srcStep, kill, setMany, loadS, fieldS, buildS, toks, Fin, upd_app, Array.isEmpty, Nat.reduceLT, Nat.reduceAdd, Nat.reduceMul, Nat.reduceLeDiff, Nat.reduceSub, Nat.reduceEqDiff, reduceCtorEq, reduceIte, ↓Opt.is, ↓Opt.no, ↓Asks.yes, ↓Asks.no, tyL, List.nodup_cons, encL, Tryd.f8]
end Go.Proofs.YtlhdagpimcafaaaDoor.Ab

/- Chapter 38: UnsatCore, in the model. -/
open Go Go.Proofs Go.RowKit
namespace Go.Proofs.YtlhdagpimcafaaaDoor.Ab
set_option linter.unusedSimpArgs false
set_option linter.unusedVariables false
set_option maxRecDepth 100000
theorem rng_first (m : Nat) : firstK m (rngI m) := by
  refine ⟨by rw [rngI_len]; exact Nat.le_refl _, fun j h _ => rngI_get h, fun j h hk => by rw [rngI_len] at h; omega⟩
theorem rng_snoc (m : Nat) : rngI (m + 1) = rngI m ++ [(m : Int)] := by
  unfold rngI
  rw [List.range_succ, List.map_append]; rfl
theorem specUnsatCore_a {n : Int} {L P : List (List Int)} (gL : (eSlice (eSlice eInt)).good L) (gP : (eSlice (eSlice eInt)).good P) (hL : L.length ≤ 1048576) (hb : ∀ b, b ∈ L → b.length ≤ 1048576) (hP : P.length ≤ 1048576) (hbP : ∀ b, b ∈ P → b.length ≤ 1048576) :
    AC Tryd.prog 6 [.d (.v (.int .i64 n)), .d (encIss L), .d (encIss P)] (.d (encIs (ucL n L P))) := by
  have hc1 := specIsValidProof_a (n := n) hL hb (fun b hb => (gL.2 b hb).2) hP hbP (fun b hb => (gP.2 b hb).2)
  have z3 : ∀ x : Nat, (0 ≤ (x : Int)) = True := fun x => eq_true (by omega)
  unfold ucL
  rcases Bool.eq_false_or_eq_true (prfV n L P) with hd | hd
  · rw [hd] at hc1 ⊢
    rw [if_pos rfl]
    have hokc : ∀ x : List Int, x.length ≤ 1048576 → AC Tryd.prog 19 [.d (encIss L), .d (encIs x)] (.o 0 (encIss (selC L x))) ∧ AC Tryd.prog 18 [.d (.v (.int .i64 n)), .d (encIss (selC L x)), .d (encIss P)] (.d (.v (.bool (okU n L P x)))) := fun x hx => by
      obtain ⟨s1, s2, s3⟩ := selC_bounds gL hb hx
      exact ⟨specSelectClauses_a L x hL hb hx, specIsValidProof_a (n := n) s1 s2 s3 hP hbP (fun b hb => (gP.2 b hb).2)⟩
    generalize okU n L P = OK at *
    refine AC.intro Tryd.func6 rfl (by decide) (by simp [S.res, S.ress]) (by simp [S.os, S.oss]) (by simp [S.wfs, S.wf, dbS]) (by simp [Tryd.f6]) ?_; rw [Tryd.ntmps6]
    repeat (first | refine aq ?_ | refine ap (by rfl : apartB 0 _ _ = true) ?_ | refine ak ?_ | refine ab ?_ | refine al ?_ | ((first | refine ar ?_ | refine ad ty_mix (by kernel_rfl) ?_ | refine ac ?_ | refine ae ?_ | with_reducible refine Later.mk ?_); simp only [evD, evL, iteL, St.said, St.asked, evStep, evOp, evP, St.init, St.app, srcStep, kill, setMany, loadS, fieldS, buildS, toks, Fin, upd_app, Array.isEmpty, Nat.reduceLT, Nat.reduceAdd, Nat.reduceMul, Nat.reduceLeDiff, Nat.reduceSub, Nat.reduceEqDiff, reduceCtorEq, reduceIte, ↓Opt.is, ↓Opt.no, ↓Asks.yes, ↓Asks.no, tyL, encL, asB]))
    refine ⟨_, hc1, ?_⟩; (repeat (first | refine ap (by rfl : apartB 0 _ _ = true) ?_ | refine ap (by simp [osL, D.flat]) ?_)); repeat (first | refine aq ?_ | refine ap (by rfl : apartB 0 _ _ = true) ?_ | refine ak ?_ | refine ab ?_ | refine al ?_ | ((first | refine ar ?_ | refine ad ty_mix (by kernel_rfl) ?_ | refine ac ?_ | refine ae ?_ | with_reducible refine Later.mk ?_); simp only [evD, evL, iteL, St.said, St.asked, evStep, evOp, evP, St.init, St.app, srcStep, kill, setMany, loadS, fieldS, buildS, toks, Fin, upd_app, Array.isEmpty, Nat.reduceLT, Nat.reduceAdd, Nat.reduceMul, Nat.reduceLeDiff, Nat.reduceSub, Nat.reduceEqDiff, reduceCtorEq, reduceIte, ↓Opt.is, ↓Opt.no, ↓Asks.yes, ↓Asks.no, tyL, encL, asB]))
    refine Ab.loopI L.length (fun _ => True) (fun i => mkS 63 [(0, .d (.v (.int .i64 n))), (1, .d (.sl (List.map encB L))), (2, .d (.sl (List.map encB P))), (7, .g 16 ((rngI i).map encI))] [(16, .tip true 3 1 ((rngI i).map encI))] 600) trivial ?_ ?_
    · ((first | refine Le.mk rfl ?_ ?_ | refine LeTo.mk rfl ?_ ?_) <;> simp only [evD, evL, iteL, St.said, St.asked, evStep, evOp, evP, St.init, St.app, srcStep, kill, setMany, loadS, fieldS, buildS, toks, Fin, upd_app, Array.isEmpty, Nat.reduceLT, Nat.reduceAdd, Nat.reduceMul, Nat.reduceLeDiff, Nat.reduceSub, Nat.reduceEqDiff, reduceCtorEq, reduceIte, ↓Opt.is, ↓Opt.no, ↓Asks.yes, ↓Asks.no, tyL, encL, leL, leD, ne_eq, rngI, List.range_zero, List.map_nil])
    intro i hi _
    repeat (first | refine aq ?_ | refine ap (by rfl : apartB 0 _ _ = true) ?_ | refine ak ?_ | refine ab ?_ | refine al ?_ | ((first | refine ar ?_ | refine ad ty_mix (by kernel_rfl) ?_ | refine ac ?_ | refine ae ?_ | with_reducible refine Later.mk ?_); simp only [evD, evL, iteL, St.said, St.asked, evStep, evOp, evP, St.init, St.app, srcStep, kill, setMany, loadS, fieldS, buildS, toks, Fin, upd_app, Array.isEmpty, Nat.reduceLT, Nat.reduceAdd, Nat.reduceMul, Nat.reduceLeDiff, Nat.reduceSub, Nat.reduceEqDiff, reduceCtorEq, reduceIte, ↓Opt.is, ↓Opt.no, ↓Asks.yes, ↓Asks.no, tyL, encL, mkS, updl, rngI_len, asB]))
    refine ⟨fun h => ?_, fun h => ?_⟩
    · have h : i < L.length := by simpa using h
      repeat (first | refine aq ?_ | refine ap (by rfl : apartB 0 _ _ = true) ?_ | refine ak ?_ | refine ab ?_ | refine al ?_ | ((first | refine ar ?_ | refine ad ty_mix (by kernel_rfl) ?_ | refine ac ?_ | refine ae ?_ | with_reducible refine Later.mk ?_); simp only [evD, evL, iteL, St.said, St.asked, evStep, evOp, evP, St.init, St.app, srcStep, kill, setMany, loadS, fieldS, buildS, toks, Fin, upd_app, Array.isEmpty, Nat.reduceLT, Nat.reduceAdd, Nat.reduceMul, Nat.reduceLeDiff, Nat.reduceSub, Nat.reduceEqDiff, reduceCtorEq, reduceIte, ↓Opt.is, ↓Opt.no, ↓Asks.yes, ↓Asks.no, tyL, encL, rngI_len, asB]))
      refine ⟨by simp only [maxLen]; omega, by omega, ?_⟩
      repeat (first | refine aq ?_ | refine ap (by rfl : apartB 0 _ _ = true) ?_ | refine ak ?_ | refine ab ?_ | refine al ?_ | ((first | refine ar ?_ | refine ad ty_mix (by kernel_rfl) ?_ | refine ac ?_ | refine ae ?_ | with_reducible refine Later.mk ?_); simp only [evD, evL, iteL, St.said, St.asked, evStep, evOp, evP, St.init, St.app, srcStep, kill, setMany, loadS, fieldS, buildS, toks, Fin, upd_app, Array.isEmpty, Nat.reduceLT, Nat.reduceAdd, Nat.reduceMul, Nat.reduceLeDiff, Nat.reduceSub, Nat.reduceEqDiff, reduceCtorEq, reduceIte, ↓Opt.is, ↓Opt.no, ↓Asks.yes, ↓Asks.no, tyL, encL, asB]))
      refine ⟨h, ?_⟩
      ((first | refine Le.mk rfl ?_ ?_ | refine LeTo.mk rfl ?_ ?_) <;> simp only [evD, evL, iteL, St.said, St.asked, evStep, evOp, evP, St.init, St.app, srcStep, kill, setMany, loadS, fieldS, buildS, toks, Fin, upd_app, Array.isEmpty, Nat.reduceLT, Nat.reduceAdd, Nat.reduceMul, Nat.reduceLeDiff, Nat.reduceSub, Nat.reduceEqDiff, reduceCtorEq, reduceIte, ↓Opt.is, ↓Opt.no, ↓Asks.yes, ↓Asks.no, tyL, encL, leL, leD, ne_eq, rng_snoc, List.map_append, List.map_cons, List.map_nil, encI])
    · have h : i = L.length := by have := of_decide_eq_false h; omega
      subst h
      have hwl : IntKind.i64.wrap ((L.length : Int) - 1) = (L.length : Int) - 1 := by rw [IntKind.wrap_i64]; omega
      repeat (first | refine aq ?_ | refine ap (by rfl : apartB 0 _ _ = true) ?_ | refine ak ?_ | refine ab ?_ | refine al ?_ | ((first | refine ar ?_ | refine ad ty_mix (by kernel_rfl) ?_ | refine ac ?_ | refine ae ?_ | with_reducible refine Later.mk ?_); simp only [evD, evL, iteL, St.said, St.asked, evStep, evOp, evP, St.init, St.app, srcStep, kill, setMany, loadS, fieldS, buildS, toks, Fin, upd_app, Array.isEmpty, Nat.reduceLT, Nat.reduceAdd, Nat.reduceMul, Nat.reduceLeDiff, Nat.reduceSub, Nat.reduceEqDiff, reduceCtorEq, reduceIte, ↓Opt.is, ↓Opt.no, ↓Asks.yes, ↓Asks.no, tyL, encL, hwl, asB]))
      refine Ab.loopG (rngI L.length, L.length) (fun p => p.2) (fun p => coreF OK p.2 p.1 = coreF OK L.length (rngI L.length) ∧ firstK p.2 p.1 ∧ p.1.length ≤ L.length) (fun p => mkS 63 [(0, .d (.v (.int .i64 n))), (1, .d (.sl (List.map encB L))), (2, .d (.sl (List.map encB P))), (7, .d (.sl (p.1.map encI))), (8, .d (.v (.int .i64 ((p.2 : Int) - 1))))] [] 1000) ⟨rfl, rng_first _, by rw [rngI_len]; exact Nat.le_refl _⟩ ?_ ?_
      · ((first | refine Le.mk rfl ?_ ?_ | refine LeTo.mk rfl ?_ ?_) <;> simp only [evD, evL, iteL, St.said, St.asked, evStep, evOp, evP, St.init, St.app, srcStep, kill, setMany, loadS, fieldS, buildS, toks, Fin, upd_app, Array.isEmpty, Nat.reduceLT, Nat.reduceAdd, Nat.reduceMul, Nat.reduceLeDiff, Nat.reduceSub, Nat.reduceEqDiff, reduceCtorEq, reduceIte, ↓Opt.is, ↓Opt.no, ↓Asks.yes, ↓Asks.no, tyL, encL, leL, leD, ne_eq])
      rintro ⟨m, j⟩ ⟨hm, hj, hml⟩
      simp only at hm hj hml ⊢
      cases j with
      | zero =>
        have hge : ((((0 : Nat) : Int) - 1) ≥ 0) = False := eq_false (by omega)
        have hmR : m = coreF OK L.length (rngI L.length) := hm
        rw [← hmR]
        repeat (first | refine aq ?_ | refine ap (by rfl : apartB 0 _ _ = true) ?_ | refine ak ?_ | refine ab ?_ | refine al ?_ | ((first | refine ar ?_ | refine ad ty_mix (by kernel_rfl) ?_ | refine ac ?_ | refine ae ?_ | with_reducible refine Later.mk ?_); simp only [evD, evL, iteL, St.said, St.asked, evStep, evOp, evP, St.init, St.app, srcStep, kill, setMany, loadS, fieldS, buildS, toks, Fin, upd_app, Array.isEmpty, Nat.reduceLT, Nat.reduceAdd, Nat.reduceMul, Nat.reduceLeDiff, Nat.reduceSub, Nat.reduceEqDiff, reduceCtorEq, reduceIte, ↓Opt.is, ↓Opt.no, ↓Asks.yes, ↓Asks.no, tyL, encL, mkS, updl, hge, asB]))
        refine Ab.ret ?_; simp only [evD, evL, iteL, St.said, St.asked, evStep, evOp, evP, St.init, St.app, srcStep, kill, setMany, loadS, fieldS, buildS, toks, Fin, upd_app, Array.isEmpty, Nat.reduceLT, Nat.reduceAdd, Nat.reduceMul, Nat.reduceLeDiff, Nat.reduceSub, Nat.reduceEqDiff, reduceCtorEq, reduceIte, ↓Opt.is, ↓Opt.no, ↓Asks.yes, ↓Asks.no, tyL, List.nodup_cons, encL, Tryd.f6]
      | succ i =>
        obtain ⟨f1, f2, f3⟩ := firstK_erase hj
        have hjl := hj.1
        have e1 : ((i + 1 : Nat) : Int) - 1 = (i : Int) := by omega
        have hge : ((i : Int) ≥ 0) = True := eq_true (by omega)
        have hwd : IntKind.i64.wrap ((i : Int) - 1) = (i : Int) - 1 := by rw [IntKind.wrap_i64]; omega
        rw [core_step] at hm
        rw [e1]
        repeat (first | refine aq ?_ | refine ap (by rfl : apartB 0 _ _ = true) ?_ | refine ak ?_ | refine ab ?_ | refine al ?_ | ((first | refine ar ?_ | refine ad ty_mix (by kernel_rfl) ?_ | refine ac ?_ | refine ae ?_ | with_reducible refine Later.mk ?_); simp only [evD, evL, iteL, St.said, St.asked, evStep, evOp, evP, St.init, St.app, srcStep, kill, setMany, loadS, fieldS, buildS, toks, Fin, upd_app, Array.isEmpty, Nat.reduceLT, Nat.reduceAdd, Nat.reduceMul, Nat.reduceLeDiff, Nat.reduceSub, Nat.reduceEqDiff, reduceCtorEq, reduceIte, ↓Opt.is, ↓Opt.no, ↓Asks.yes, ↓Asks.no, tyL, encL, mkS, updl, hge, asB]))
        refine Ab.loopI m.length (fun _ => True) (fun k => mkS 63 [(0, .d (.v (.int .i64 n))), (1, .d (.sl (List.map encB L))), (2, .d (.sl (List.map encB P))), (7, .d (.sl (m.map encI))), (8, .d (.v (.int .i64 (i : Int)))), (9, .g 1032 (((m.take k).filter (fun x => decide (x ≠ (i : Int)))).map encI)), (10, .d (.v (.int .i64 (k : Int))))] [(1032, .tip true 3 1 (((m.take k).filter (fun x => decide (x ≠ (i : Int)))).map encI))] 2000) trivial ?_ ?_
        · ((first | refine Le.mk rfl ?_ ?_ | refine LeTo.mk rfl ?_ ?_) <;> simp only [evD, evL, iteL, St.said, St.asked, evStep, evOp, evP, St.init, St.app, srcStep, kill, setMany, loadS, fieldS, buildS, toks, Fin, upd_app, Array.isEmpty, Nat.reduceLT, Nat.reduceAdd, Nat.reduceMul, Nat.reduceLeDiff, Nat.reduceSub, Nat.reduceEqDiff, reduceCtorEq, reduceIte, ↓Opt.is, ↓Opt.no, ↓Asks.yes, ↓Asks.no, tyL, encL, leL, leD, ne_eq, List.take_zero, List.filter_nil, List.map_nil])
        intro k hk _
        repeat (first | refine aq ?_ | refine ap (by rfl : apartB 0 _ _ = true) ?_ | refine ak ?_ | refine ab ?_ | refine al ?_ | ((first | refine ar ?_ | refine ad ty_mix (by kernel_rfl) ?_ | refine ac ?_ | refine ae ?_ | with_reducible refine Later.mk ?_); simp only [evD, evL, iteL, St.said, St.asked, evStep, evOp, evP, St.init, St.app, srcStep, kill, setMany, loadS, fieldS, buildS, toks, Fin, upd_app, Array.isEmpty, Nat.reduceLT, Nat.reduceAdd, Nat.reduceMul, Nat.reduceLeDiff, Nat.reduceSub, Nat.reduceEqDiff, reduceCtorEq, reduceIte, ↓Opt.is, ↓Opt.no, ↓Asks.yes, ↓Asks.no, tyL, encL, mkS, updl, asB]))
        refine ⟨fun h => ?_, fun h => ?_⟩
        · have h : k < m.length := by simpa using h
          have hw := wrapN h (by omega)
          have hfl : ((m.take k).filter (fun x => decide (x ≠ (i : Int)))).length ≤ k := Nat.le_trans (List.length_filter_le _ _) (by rw [List.length_take]; omega)
          have hfs : (m.take (k + 1)).filter (fun x => decide (x ≠ (i : Int))) = (m.take k).filter (fun x => decide (x ≠ (i : Int))) ++ (if m[k] ≠ (i : Int) then [m[k]] else []) := by
            rw [List.take_succ_eq_append_getElem h, List.filter_append, List.filter_cons, List.filter_nil]
            by_cases c : m[k] = (i : Int) <;> simp [c]
          generalize (m.take k).filter (fun x => decide (x ≠ (i : Int))) = U at *
          by_cases c : m[k] = (i : Int)
          · rw [if_neg (fun h => h c), List.append_nil] at hfs
            have hb2 : (m[k] != (i : Int)) = false := by rw [c]; simp
            repeat (first | refine aq ?_ | refine ap (by rfl : apartB 0 _ _ = true) ?_ | refine ak ?_ | refine ab ?_ | refine al ?_ | ((first | refine ar ?_ | refine ad ty_mix (by kernel_rfl) ?_ | refine ac ?_ | refine ae ?_ | with_reducible refine Later.mk ?_); simp only [evD, evL, iteL, St.said, St.asked, evStep, evOp, evP, St.init, St.app, srcStep, kill, setMany, loadS, fieldS, buildS, toks, Fin, upd_app, Array.isEmpty, Nat.reduceLT, Nat.reduceAdd, Nat.reduceMul, Nat.reduceLeDiff, Nat.reduceSub, Nat.reduceEqDiff, reduceCtorEq, reduceIte, ↓Opt.is, ↓Opt.no, ↓Asks.yes, ↓Asks.no, tyL, encL, getI h, z3, hb2, hw, asB]))
            refine ⟨h, ?_⟩
            ((first | refine Le.mk rfl ?_ ?_ | refine LeTo.mk rfl ?_ ?_) <;> simp only [evD, evL, iteL, St.said, St.asked, evStep, evOp, evP, St.init, St.app, srcStep, kill, setMany, loadS, fieldS, buildS, toks, Fin, upd_app, Array.isEmpty, Nat.reduceLT, Nat.reduceAdd, Nat.reduceMul, Nat.reduceLeDiff, Nat.reduceSub, Nat.reduceEqDiff, reduceCtorEq, reduceIte, ↓Opt.is, ↓Opt.no, ↓Asks.yes, ↓Asks.no, tyL, encL, leL, leD, ne_eq, hfs])
          · rw [if_pos c] at hfs
            have hb2 : (m[k] != (i : Int)) = true := bne_iff_ne.2 c
            repeat (first | refine aq ?_ | refine ap (by rfl : apartB 0 _ _ = true) ?_ | refine ak ?_ | refine ab ?_ | refine al ?_ | ((first | refine ar ?_ | refine ad ty_mix (by kernel_rfl) ?_ | refine ac ?_ | refine ae ?_ | with_reducible refine Later.mk ?_); simp only [evD, evL, iteL, St.said, St.asked, evStep, evOp, evP, St.init, St.app, srcStep, kill, setMany, loadS, fieldS, buildS, toks, Fin, upd_app, Array.isEmpty, Nat.reduceLT, Nat.reduceAdd, Nat.reduceMul, Nat.reduceLeDiff, Nat.reduceSub, Nat.reduceEqDiff, reduceCtorEq, reduceIte, ↓Opt.is, ↓Opt.no, ↓Asks.yes, ↓Asks.no, tyL, encL, getI h, z3, hb2, hw, asB]))
            refine ⟨by simp only [maxLen]; omega, by omega, ?_⟩
            repeat (first | refine aq ?_ | refine ap (by rfl : apartB 0 _ _ = true) ?_ | refine ak ?_ | refine ab ?_ | refine al ?_ | ((first | refine ar ?_ | refine ad ty_mix (by kernel_rfl) ?_ | refine ac ?_ | refine ae ?_ | with_reducible refine Later.mk ?_); simp only [evD, evL, iteL, St.said, St.asked, evStep, evOp, evP, St.init, St.app, srcStep, kill, setMany, loadS, fieldS, buildS, toks, Fin, upd_app, Array.isEmpty, Nat.reduceLT, Nat.reduceAdd, Nat.reduceMul, Nat.reduceLeDiff, Nat.reduceSub, Nat.reduceEqDiff, reduceCtorEq, reduceIte, ↓Opt.is, ↓Opt.no, ↓Asks.yes, ↓Asks.no, tyL, encL, hw, asB]))
            refine ⟨h, ?_⟩
            ((first | refine Le.mk rfl ?_ ?_ | refine LeTo.mk rfl ?_ ?_) <;> simp only [evD, evL, iteL, St.said, St.asked, evStep, evOp, evP, St.init, St.app, srcStep, kill, setMany, loadS, fieldS, buildS, toks, Fin, upd_app, Array.isEmpty, Nat.reduceLT, Nat.reduceAdd, Nat.reduceMul, Nat.reduceLeDiff, Nat.reduceSub, Nat.reduceEqDiff, reduceCtorEq, reduceIte, ↓Opt.is, ↓Opt.no, ↓Asks.yes, ↓Asks.no, tyL, encL, leL, leD, ne_eq, hfs, List.map_append, List.map_cons, List.map_nil, encI])
        · have h : k = m.length := by have := of_decide_eq_false h; omega
          subst h
          rw [List.take_length, ← f1]
          have hel : (m.eraseIdx i).length ≤ m.length := by rw [List.length_eraseIdx]; split <;> omega
          obtain ⟨hk1, hk2⟩ := hokc (m.eraseIdx i) (by omega)
          rcases Bool.eq_false_or_eq_true (OK (m.eraseIdx i)) with c | c
          · rw [c] at hk2 hm
            rw [if_pos rfl] at hm
            generalize m.eraseIdx i = X at *
            repeat (first | refine aq ?_ | refine ap (by rfl : apartB 0 _ _ = true) ?_ | refine ak ?_ | refine ab ?_ | refine al ?_ | ((first | refine ar ?_ | refine ad ty_mix (by kernel_rfl) ?_ | refine ac ?_ | refine ae ?_ | with_reducible refine Later.mk ?_); simp only [evD, evL, iteL, St.said, St.asked, evStep, evOp, evP, St.init, St.app, srcStep, kill, setMany, loadS, fieldS, buildS, toks, Fin, upd_app, Array.isEmpty, Nat.reduceLT, Nat.reduceAdd, Nat.reduceMul, Nat.reduceLeDiff, Nat.reduceSub, Nat.reduceEqDiff, reduceCtorEq, reduceIte, ↓Opt.is, ↓Opt.no, ↓Asks.yes, ↓Asks.no, tyL, encL, asB]))
            refine ⟨_, hk1, ?_⟩; (repeat (first | refine ap (by rfl : apartB 0 _ _ = true) ?_ | refine ap (by simp [osL, D.flat]) ?_)); repeat (first | refine aq ?_ | refine ap (by rfl : apartB 0 _ _ = true) ?_ | refine ak ?_ | refine ab ?_ | refine al ?_ | ((first | refine ar ?_ | refine ad ty_mix (by kernel_rfl) ?_ | refine ac ?_ | refine ae ?_ | with_reducible refine Later.mk ?_); simp only [evD, evL, iteL, St.said, St.asked, evStep, evOp, evP, St.init, St.app, srcStep, kill, setMany, loadS, fieldS, buildS, toks, Fin, upd_app, Array.isEmpty, Nat.reduceLT, Nat.reduceAdd, Nat.reduceMul, Nat.reduceLeDiff, Nat.reduceSub, Nat.reduceEqDiff, reduceCtorEq, reduceIte, ↓Opt.is, ↓Opt.no, ↓Asks.yes, ↓Asks.no, tyL, encL, asB]))
            refine ⟨_, hk2, ?_⟩; (repeat (first | refine ap (by rfl : apartB 0 _ _ = true) ?_ | refine ap (by simp [osL, D.flat]) ?_)); repeat (first | refine aq ?_ | refine ap (by rfl : apartB 0 _ _ = true) ?_ | refine ak ?_ | refine ab ?_ | refine al ?_ | ((first | refine ar ?_ | refine ad ty_mix (by kernel_rfl) ?_ | refine ac ?_ | refine ae ?_ | with_reducible refine Later.mk ?_); simp only [evD, evL, iteL, St.said, St.asked, evStep, evOp, evP, St.init, St.app, srcStep, kill, setMany, loadS, fieldS, buildS, toks, Fin, upd_app, Array.isEmpty, Nat.reduceLT, Nat.reduceAdd, Nat.reduceMul, Nat.reduceLeDiff, Nat.reduceSub, Nat.reduceEqDiff, reduceCtorEq, reduceIte, ↓Opt.is, ↓Opt.no, ↓Asks.yes, ↓Asks.no, tyL, encL, hwd, asB]))
            refine ⟨(X, i), by simp only; omega, ⟨hm, f2, by simp only; omega⟩, ?_⟩
            ((first | refine Le.mk rfl ?_ ?_ | refine LeTo.mk rfl ?_ ?_) <;> simp only [evD, evL, iteL, St.said, St.asked, evStep, evOp, evP, St.init, St.app, srcStep, kill, setMany, loadS, fieldS, buildS, toks, Fin, upd_app, Array.isEmpty, Nat.reduceLT, Nat.reduceAdd, Nat.reduceMul, Nat.reduceLeDiff, Nat.reduceSub, Nat.reduceEqDiff, reduceCtorEq, reduceIte, ↓Opt.is, ↓Opt.no, ↓Asks.yes, ↓Asks.no, tyL, encL, leL, leD, ne_eq])
          · rw [c] at hk2 hm
            rw [if_neg (by simp)] at hm
            generalize m.eraseIdx i = X at *
            repeat (first | refine aq ?_ | refine ap (by rfl : apartB 0 _ _ = true) ?_ | refine ak ?_ | refine ab ?_ | refine al ?_ | ((first | refine ar ?_ | refine ad ty_mix (by kernel_rfl) ?_ | refine ac ?_ | refine ae ?_ | with_reducible refine Later.mk ?_); simp only [evD, evL, iteL, St.said, St.asked, evStep, evOp, evP, St.init, St.app, srcStep, kill, setMany, loadS, fieldS, buildS, toks, Fin, upd_app, Array.isEmpty, Nat.reduceLT, Nat.reduceAdd, Nat.reduceMul, Nat.reduceLeDiff, Nat.reduceSub, Nat.reduceEqDiff, reduceCtorEq, reduceIte, ↓Opt.is, ↓Opt.no, ↓Asks.yes, ↓Asks.no, tyL, encL, asB]))
            refine ⟨_, hk1, ?_⟩; (repeat (first | refine ap (by rfl : apartB 0 _ _ = true) ?_ | refine ap (by simp [osL, D.flat]) ?_)); repeat (first | refine aq ?_ | refine ap (by rfl : apartB 0 _ _ = true) ?_ | refine ak ?_ | refine ab ?_ | refine al ?_ | ((first | refine ar ?_ | refine ad ty_mix (by kernel_rfl) ?_ | refine ac ?_ | refine ae ?_ | with_reducible refine Later.mk ?_); simp only [evD, evL, iteL, St.said, St.asked, evStep, evOp, evP, St.init, St.app, srcStep, kill, setMany, loadS, fieldS, buildS, toks, Fin, upd_app, Array.isEmpty, Nat.reduceLT, Nat.reduceAdd, Nat.reduceMul, Nat.reduceLeDiff, Nat.reduceSub, Nat.reduceEqDiff, reduceCtorEq, reduceIte, ↓Opt.is, ↓Opt.no, ↓Asks.yes, ↓Asks.no, tyL, encL, asB]))
            refine ⟨_, hk2, ?_⟩; (repeat (first | refine ap (by rfl : apartB 0 _ _ = true) ?_ | refine ap (by simp [osL, D.flat]) ?_)); repeat (first | refine aq ?_ | refine ap (by rfl : apartB 0 _ _ = true) ?_ | refine ak ?_ | refine ab ?_ | refine al ?_ | ((first | refine ar ?_ | refine ad ty_mix (by kernel_rfl) ?_ | refine ac ?_ | refine ae ?_ | with_reducible refine Later.mk ?_); simp only [evD, evL, iteL, St.said, St.asked, evStep, evOp, evP, St.init, St.app, srcStep, kill, setMany, loadS, fieldS, buildS, toks, Fin, upd_app, Array.isEmpty, Nat.reduceLT, Nat.reduceAdd, Nat.reduceMul, Nat.reduceLeDiff, Nat.reduceSub, Nat.reduceEqDiff, reduceCtorEq, reduceIte, ↓Opt.is, ↓Opt.no, ↓Asks.yes, ↓Asks.no, tyL, encL, hwd, asB]))
            refine ⟨(m, i), by simp only; omega, ⟨hm, f3, hml⟩, ?_⟩
            ((first | refine Le.mk rfl ?_ ?_ | refine LeTo.mk rfl ?_ ?_) <;> simp only [evD, evL, iteL, St.said, St.asked, evStep, evOp, evP, St.init, St.app, srcStep, kill, setMany, loadS, fieldS, buildS, toks, Fin, upd_app, Array.isEmpty, Nat.reduceLT, Nat.reduceAdd, Nat.reduceMul, Nat.reduceLeDiff, Nat.reduceSub, Nat.reduceEqDiff, reduceCtorEq, reduceIte, ↓Opt.is, ↓Opt.no, ↓Asks.yes, ↓Asks.no, tyL, encL, leL, leD, ne_eq])
  · rw [hd] at hc1 ⊢
    rw [if_neg (by simp)]
    refine AC.intro Tryd.func6 rfl (by decide) (by simp [S.res, S.ress]) (by simp [S.os, S.oss]) (by simp [S.wfs, S.wf, dbS]) (by simp [Tryd.f6]) ?_; rw [Tryd.ntmps6]
    repeat (first | refine aq ?_ | refine ap (by rfl : apartB 0 _ _ = true) ?_ | refine ak ?_ | refine ab ?_ | refine al ?_ | ((first | refine ar ?_ | refine ad ty_mix (by kernel_rfl) ?_ | refine ac ?_ | refine ae ?_ | with_reducible refine Later.mk ?_); simp only [evD, evL, iteL, St.said, St.asked, evStep, evOp, evP, St.init, St.app, srcStep, kill, setMany, loadS, fieldS, buildS, toks, Fin, upd_app, Array.isEmpty, Nat.reduceLT, Nat.reduceAdd, Nat.reduceMul, Nat.reduceLeDiff, Nat.reduceSub, Nat.reduceEqDiff, reduceCtorEq, reduceIte, ↓Opt.is, ↓Opt.no, ↓Asks.yes, ↓Asks.no, tyL, encL, asB]))
    refine ⟨_, hc1, ?_⟩; (repeat (first | refine ap (by rfl : apartB 0 _ _ = true) ?_ | refine ap (by simp [osL, D.flat]) ?_)); repeat (first | refine aq ?_ | refine ap (by rfl : apartB 0 _ _ = true) ?_ | refine ak ?_ | refine ab ?_ | refine al ?_ | ((first | refine ar ?_ | refine ad ty_mix (by kernel_rfl) ?_ | refine ac ?_ | refine ae ?_ | with_reducible refine Later.mk ?_); simp only [evD, evL, iteL, St.said, St.asked, evStep, evOp, evP, St.init, St.app, srcStep, kill, setMany, loadS, fieldS, buildS, toks, Fin, upd_app, Array.isEmpty, Nat.reduceLT, Nat.reduceAdd, Nat.reduceMul, Nat.reduceLeDiff, Nat.reduceSub, Nat.reduceEqDiff, reduceCtorEq, reduceIte, ↓Opt.is, ↓Opt.no, ↓Asks.yes, ↓Asks.no, tyL, encL, asB]))
    refine Ab.ret ?_; simp only [evD, evL, iteL, St.said, St.asked, evStep, evOp, evP, St.init, St.app, srcStep, kill, setMany, loadS, fieldS, buildS, toks, Fin, upd_app, Array.isEmpty, Nat.reduceLT, Nat.reduceAdd, Nat.reduceMul, Nat.reduceLeDiff, Nat.reduceSub, Nat.reduceEqDiff, reduceCtorEq, reduceIte, ↓Opt.is, ↓Opt.no, ↓Asks.yes, ↓Asks.no, tyL, List.nodup_cons, encL, Tryd.f6]
theorem ucL_len (n : Int) (L P : List (List Int)) : (ucL n L P).length ≤ L.length := by
  unfold ucL
  split
  · have := coreF_len (okU n L P) L.length (rngI L.length)
    rw [rngI_len] at this
    exact this
  · exact Nat.zero_le _
theorem ucL_good {n : Int} {L P : List (List Int)} (hL : L.length ≤ 1048576) : (eSlice eInt).good (ucL n L P) := by
  refine ⟨by have := ucL_len n L P; simp only [maxLen]; omega, fun x hx => ?_⟩
  unfold ucL at hx
  split at hx
  · have := coreF_mem _ _ _ x hx
    unfold rngI at this
    obtain ⟨k, hk, rfl⟩ := List.mem_map.1 this
    rw [List.mem_range] at hk
    constructor <;> omega
  · cases hx
end Go.Proofs.YtlhdagpimcafaaaDoor.Ab


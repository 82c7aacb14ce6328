/- Chapter 18: a set of numbers in a map that crosses calls: elementsOf, containsAll; IsCovered, hasSmallerCover. -/
import Derived.Test.YtgoofnhhhlncoaaIndI
import Derived.Test.YtgoofnhhhlncoaaSat
namespace Go.Proofs.Ytgoofnhhhlncoaa
open Go.RowKit
set_option linter.unusedVariables false
set_option maxRecDepth 100000

theorem elementsOf_c {a0 : Option Addr} {cap0 : Nat} {s : List Int} {w : World} (h : At (cSlice cInt) w s [.slice a0 s.length cap0]) :
    Calls Try.prog 130 #[.slice a0 s.length cap0] w fun e w' => (∃ b, e = .returned (.map (some b)) ∧ SetAt w' b s.length (fun z => s.contains z)) ∧ Below w.heap.size w w' := by
  have hm2 := (slice_len h).2
  unfold maxLen at hm2
  have hrs := ints_rng h
  have Hs : Hid (∀ w' : World, Below w.heap.size w w' → ∀ j (hj : j < s.length), _) := fun w' hb j hj => ints_at (Cod.ok_below h hb) j hj
  clear h
  obtain ⟨K, hK⟩ : ∃ n : Nat, s.length = n := ⟨_, rfl⟩
  have HK := Lib.hid hK
  rw [hK] at hm2 ⊢
  clear hK
  obtain ⟨M, hM⟩ : ∃ M : Int → Bool, M = fun z => s.contains z := ⟨_, rfl⟩
  have HM := Lib.hid hM
  rw [← hM]
  clear hM
  have hmm := @run_makeMap Try.prog
  go_enter Try.func130, Try.ntmps130
  go_wp2
  go_loopw [9] (fun iv wr => ∃ k : Nat, k ≤ K ∧ iv = .int .i64 k ∧ Hid (SetAt wr w.heap.size k (fun z => (s.take k).contains z)) ∧ Below w.heap.size w wr) (fun iv _ => K - (intOf iv).toNat)
  case atStart => exact ⟨0, by omega, by go_num, SetAt.made _, (Below.refl _ _).alloc (Nat.le_refl _) _⟩
  case round =>
    obtain ⟨k, hk, rfl, Hq, hb⟩ := hrel
    by_cases hlt : k < K
    · have hkl : k < s.length := by rw [HK.out]; exact hlt
      obtain ⟨b, off, rfl, hbB, c0⟩ := Hs.out _ hb k hkl
      have Hst := Lib.hid (take_has s k hkl)
      have hin : inR s[k] := hrs _ (List.getElem_mem hkl)
      generalize s[k] = x at *
      go_wp2_with (first
        | (at_mapUpdate; refine wpList_put_set rfl _ _ _ 156 rfl Try.underlying156 w.heap.size k _ Hq.out (by unfold maxLen; omega) rfl _ rfl rfl hin ?_; intro w1 hset1 hgrow1)
        | go_in)
      go_roundw
      case rel => exact ⟨k + 1, by omega, by go_num, (by
        have e : (fun z => (s.take (k + 1)).contains z) = (fun z => (s.take k).contains z || decide (z = x)) := funext fun z => Hst.out z
        show SetAt _ _ _ _
        rw [e]
        exact hset1), hb.grown hgrow1 hb.size (fun j hj => by cases hj; exact Nat.le_refl _)⟩
      case measure => simp [intOf]; omega
    · have hkK : k = K := by omega
      have HS : Hid (SetAt wr w.heap.size K M) := by
        have h := Hq.out
        rw [hkK, ← HK.out, List.take_length] at h
        rw [← HK.out, HM.out]
        exact h
      clear Hq Hs
      go_wp2
      go_ret
      exact ⟨⟨_, rfl, HS.out⟩, hb⟩
theorem containsAll_c {b n : Nat} {M : Int → Bool} {a0 : Option Addr} {cap0 : Nat} {s : List Int} {w : World} (hS : SetAt w b n M) (h : At (cSlice cInt) w s [.slice a0 s.length cap0]) :
    Calls Try.prog 131 #[.map (some b), .slice a0 s.length cap0] w fun e w' => e = .returned (.bool (s.all M)) ∧ Below w.heap.size w w' := by
  have hm2 := (slice_len h).2
  unfold maxLen at hm2
  have hrs := ints_rng h
  have Hs : Hid (∀ w' : World, Below w.heap.size w w' → ∀ j (hj : j < s.length), _) := fun w' hb j hj => ints_at (Cod.ok_below h hb) j hj
  have HS : Hid (SetAt w b n M) := hS
  clear h hS
  obtain ⟨K, hK⟩ : ∃ n : Nat, s.length = n := ⟨_, rfl⟩
  have HK := Lib.hid hK
  rw [hK] at hm2 ⊢
  clear hK
  generalize hR : s.all M = R
  have HR : Hid ((s.drop 0).all M = R) := hR
  clear hR
  go_enter Try.func131, Try.ntmps131
  go_wp2
  go_loopw [9] (fun iv wr => ∃ k : Nat, k ≤ K ∧ iv = .int .i64 k ∧ Hid ((s.drop k).all M = R) ∧ Below w.heap.size w wr) (fun iv _ => K - (intOf iv).toNat)
  case atStart => exact ⟨0, by omega, by go_num, HR, Below.refl _ _⟩
  case round =>
    clear HR
    obtain ⟨k, hk, rfl, Hq, hb⟩ := hrel
    by_cases hlt : k < K
    · have hkl : k < s.length := by rw [HK.out]; exact hlt
      have Hst := Lib.hid (Hq.out.symm.trans (all_drop M s k hkl))
      obtain ⟨b0, off, rfl, hbB, c0⟩ := Hs.out _ hb k hkl
      have hin : inR s[k] := hrs _ (List.getElem_mem hkl)
      have hrun := (SetAt.next HS.out hb).look hin Try.underlying156
      clear Hq
      generalize s[k] = x at *
      generalize M x = m at *
      cases m
      · have hR : R = false := Hst.out
        go_wp2
        go_ret
        exact ⟨by rw [hR]; rfl, hb⟩
      · have Hs2 : Hid ((s.drop (k + 1)).all M = R) := by have h := Hst.out; rw [Bool.true_and] at h; exact h.symm
        go_wp2
        go_roundw
        case rel => exact ⟨k + 1, by omega, by go_num, Hs2, hb⟩
        case measure => simp [intOf]; omega
    · obtain rfl : k = K := by omega
      have hR : R = true := by
        have := Hq.out
        rw [List.drop_eq_nil_of_le (by rw [HK.out]; exact Nat.le_refl _)] at this
        exact this.symm
      go_wp2
      go_ret
      exact ⟨by rw [hR]; rfl, hb⟩
theorem intss_at {w : World} {L : List (List Int)} {a : Option Addr} {len cap : Nat} (h : At (cSlice (cSlice cInt)) w L [.slice a len cap]) (w' : World) (hb : Below w.heap.size w w') (j : Nat) (hj : j < L.length) :
    ∃ b off a' cap', a = some ⟨b, off, none⟩ ∧ b < w.heap.size ∧ w'.cell? ⟨b, off + j, none⟩ = some (.slice a' L[j].length cap') ∧ At (cSlice cInt) w' L[j] [.slice a' L[j].length cap'] := by
  obtain ⟨b, off, es, rfl, hlt, he, hc⟩ := slice_at (Cod.ok_below h hb) j hj
  have h3 : At (cSlice cInt) w' L[j] es := (cSlice cInt).keep he (fun _ _ => rfl) hb.size
  obtain ⟨a', cap', rfl, _⟩ := id he
  exact ⟨b, off, a', cap', rfl, hlt, by simpa [cSlice] using hc 0 (by simp [cSlice]), h3⟩
/-- One of the sets lies within s. -/
def covL (L : List (List Int)) (s : List Int) : Bool := L.any fun o => o.all fun z => s.contains z
set_option maxHeartbeats 6400000 in
theorem implIsCovered_r {a0 a1 : Option Addr} {cap0 cap1 : Nat} {L : List (List Int)} {s : List Int} {w : World} (h : At (cSlice (cSlice cInt)) w L [.slice a0 L.length cap0]) (h2 : At (cSlice cInt) w s [.slice a1 s.length cap1]) :
    Calls Try.prog 59 #[.slice a0 L.length cap0, .slice a1 s.length cap1] w fun e w' => e = .returned (.bool (covL L s)) ∧ Below w.heap.size w w' := by
  have hm := (slice_len h).2
  unfold maxLen at hm
  have Hr : Hid (∀ w' : World, Below w.heap.size w w' → ∀ j (hj : j < L.length), _) := fun w' hb j hj => intss_at h w' hb j hj
  have Hc : Hid (∀ ww, Below w.heap.size w ww → Calls Try.prog 130 #[.slice a1 s.length cap1] ww fun e w' => (∃ b, e = .returned (.map (some b)) ∧ SetAt w' b s.length (fun z => s.contains z)) ∧ Below ww.heap.size ww w') := fun ww hb => elementsOf_c (At.below h2 hb (Nat.le_refl _))
  clear h h2
  unfold covL
  generalize s.length = K at *
  generalize (fun z => s.contains z) = M at *
  obtain ⟨N, hN⟩ : ∃ n : Nat, L.length = n := ⟨_, rfl⟩
  have HN := Lib.hid hN
  rw [hN] at hm ⊢
  clear hN
  obtain ⟨F, hF⟩ : ∃ F : List Int → Bool, F = fun o => o.all M := ⟨_, rfl⟩
  have HF := Lib.hid hF
  rw [← hF]
  clear hF
  generalize hR : L.any F = R
  have HR : Hid ((L.drop 0).any F = R) := hR
  clear hR
  go_enter Try.func59, Try.ntmps59
  go_wp2_with fail
  refine (Hc.out _ (Below.refl _ _)).mono ?_
  rintro e w1 ⟨⟨bm, rfl, hset⟩, hb1⟩
  have HS : Hid (SetAt w1 bm K M) := hset
  clear hset
  go_wp2
  go_loopw [12] (fun iv wr => ∃ k : Nat, k ≤ N ∧ iv = .int .i64 k ∧ Hid ((L.drop k).any F = R) ∧ Hid (Below w1.heap.size w1 wr) ∧ Below w.heap.size w wr) (fun iv _ => N - (intOf iv).toNat)
  case atStart => exact ⟨0, by omega, by go_num, HR, Below.refl _ _, hb1⟩
  case round =>
    clear HR hb1
    obtain ⟨k, hk, rfl, Hq, HB, hb⟩ := hrel
    by_cases hlt : k < N
    · have hkl : k < L.length := by rw [HN.out]; exact hlt
      have Hst := Lib.hid (Hq.out.symm.trans (any_drop F L k hkl))
      obtain ⟨b, off, a', cap', rfl, hbB, c0, ho⟩ := Hr.out _ hb k hkl
      have HC : Hid (∀ ww, ww.heap = wr.heap → Calls Try.prog 131 #[.map (some bm), .slice a' L[k].length cap'] ww fun e w' => e = .returned (.bool (F L[k])) ∧ Below ww.heap.size ww w') := fun ww hw => by
        rw [HF.out]
        exact containsAll_c ((SetAt.next HS.out HB.out).block (by rw [hw])) (At.here ho hw)
      clear Hq ho
      generalize F L[k] = f at *
      generalize L[k] = o at *
      generalize o.length = ol at *
      cases f
      · have Hs2 : Hid ((L.drop (k + 1)).any F = R) := by have h := Hst.out; rw [Bool.false_or] at h; exact h.symm
        go_wp2_with fail
        refine (HC.out _ rfl).mono ?_
        rintro e w2 ⟨rfl, hb2⟩
        go_wp2
        go_roundw
        case rel => exact ⟨k + 1, by omega, by go_num, Hs2, Below.next HB.out hb2, Below.next hb hb2⟩
        case measure => simp [intOf]; omega
      · have hR : R = true := Hst.out
        go_wp2_with fail
        refine (HC.out _ rfl).mono ?_
        rintro e w2 ⟨rfl, hb2⟩
        go_wp2
        go_ret
        exact ⟨by rw [hR]; rfl, Below.next hb hb2⟩
    · obtain rfl : k = N := by omega
      have hR : R = false := by
        have := Hq.out
        rw [List.drop_eq_nil_of_le (by rw [HN.out]; exact Nat.le_refl _)] at this
        exact this.symm
      go_wp2
      go_ret
      exact ⟨by rw [hR]; rfl, hb⟩
end Go.Proofs.Ytgoofnhhhlncoaa


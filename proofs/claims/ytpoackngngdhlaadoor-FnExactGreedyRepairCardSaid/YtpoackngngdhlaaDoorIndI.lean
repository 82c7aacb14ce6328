/- Chapter 8: IsIndependent, the program's: a set of numbers kept in a map of its own. -/
import Derived.Test.YtpoackngngdhlaaDoorMp
import Derived.Test.YtpoackngngdhlaaDoorEdge1
namespace Go.Proofs.YtpoackngngdhlaaDoor
open Go.RowKit
set_option linter.unusedVariables false
set_option maxRecDepth 100000

theorem wpList_lookup_set {w : World} {ops : Array Oper} {rest : List Oper} {o : Oper} {a : Act} {Q : Exit → Act → World → Prop}
    (hg : o.guard = none) (m x : Operand) (t : TypeId) (hop : o.op = Op.lookup t m x false) (ht : Tryd.prog.underlying t = some (.map 3 4))
    (b n : Nat) (M : Int → Bool) (hset : SetAt w b n M) (hm : a.eval m = .map (some b)) (y : Int) (hx : a.eval x = .int .i64 y) (hy : inR y) (c : Bool) (hc : M y = c)
    (hK : wpList Tryd.prog ops Q rest (a.put o.dst (.bool c)) w) : wpList Tryd.prog ops Q (o :: rest) a w := by
  refine wpList_plain hg fun K' hK' => ?_
  have hrun := hset.look hy ht
  rw [hc] at hrun
  unfold Oper.wp
  simp [execOp, hop, hm, hx, hrun, Result.andThen]
  exact hK' _ _ hK
theorem wpList_put_set {w : World} {ops : Array Oper} {rest : List Oper} {o : Oper} {a : Act} {Q : Exit → Act → World → Prop}
    (hg : o.guard = none) (m x v : Operand) (t : TypeId) (hop : o.op = Op.mapUpdate t m x v) (ht : Tryd.prog.underlying t = some (.map 3 4))
    (b n : Nat) (M : Int → Bool) (hset : SetAt w b n M) (hn : n < maxLen) (hm : a.eval m = .map (some b)) (y : Int) (hx : a.eval x = .int .i64 y) (hv : a.eval v = .bool true) (hy : inR y)
    (hK : ∀ w', SetAt w' b (n + 1) (fun z => M z || decide (z = y)) → w.grownBy w' (some b) → wpList Tryd.prog ops Q rest (a.put o.dst undef) w') : wpList Tryd.prog ops Q (o :: rest) a w := by
  refine wpList_plain hg fun K' hK' => ?_
  obtain ⟨w', hrun, r1, r2⟩ := hset.put hn hy ht
  unfold Oper.wp
  simp [execOp, hop, hm, hx, hv, hrun, Result.andThen]
  exact hK' _ _ (hK w' r1 r2)
/-- No edge lies within the set. -/
def indE (l : List Edg) (s : List Int) : Bool := l.all fun e => !(s.contains e.a && s.contains e.b)
theorem take_has (s : List Int) (k : Nat) (hk : k < s.length) (z : Int) : (s.take (k + 1)).contains z = ((s.take k).contains z || decide (z = s[k])) := by
  rw [List.take_succ_eq_append_getElem hk, Bool.eq_iff_iff]
  simp only [List.contains_iff_mem, List.mem_append, List.mem_singleton, Bool.or_eq_true, decide_eq_true_eq]
set_option maxHeartbeats 6400000 in
theorem implIsIndependent_r {a0 a1 : Option Addr} {cap0 cap1 : Nat} {l : List Edg} {s : List Int} {w : World} (h : At (cSlice cEdg) w l [.slice a0 l.length cap0]) (h2 : At (cSlice cInt) w s [.slice a1 s.length cap1]) :
    Calls Tryd.prog 56 #[.slice a0 l.length cap0, .slice a1 s.length cap1] w fun e w' => e = .returned (.bool (indE l s)) ∧ Below w.heap.size w w' := by
  have hm := (slice_len h).2
  have hm2 := (slice_len h2).2
  unfold maxLen at hm hm2
  have hrs := ints_rng h2
  have Hr : Hid (∀ w' : World, Below w.heap.size w w' → ∀ j (hj : j < l.length), _) := fun w' hb j hj => at_ConflictEdge (Cod.ok_below h hb) j hj
  have Hs : Hid (∀ w' : World, Below w.heap.size w w' → ∀ j (hj : j < s.length), _) := fun w' hb j hj => ints_at (Cod.ok_below h2 hb) j hj
  have Hx : Hid (∀ e, e ∈ l → inR e.a ∧ inR e.b) := fun e he => by
    obtain ⟨j, hj, rfl⟩ := List.getElem_of_mem he
    obtain ⟨_, _, _, _, _, _, hc⟩ := at_ConflictEdge h j hj
    obtain ⟨_, _, _, ⟨_, q1⟩, ⟨_, q2⟩⟩ := hc
    exact ⟨q1, q2⟩
  clear h h2
  obtain ⟨N, hN⟩ : ∃ n : Nat, l.length = n := ⟨_, rfl⟩
  obtain ⟨K, hK⟩ : ∃ n : Nat, s.length = n := ⟨_, rfl⟩
  have HN := Lib.hid hN
  have HK := Lib.hid hK
  rw [hN] at hm ⊢
  rw [hK] at hm2 ⊢
  clear hN hK
  generalize hR : indE l s = R
  obtain ⟨M, hM⟩ : ∃ M : Int → Bool, M = fun z => s.contains z := ⟨_, rfl⟩
  obtain ⟨F, hF⟩ : ∃ F : Edg → Bool, F = fun e => !(M e.a && M e.b) := ⟨_, rfl⟩
  have HM := Lib.hid hM
  have HF : Hid (∀ x y, F ⟨x, y⟩ = !(M x && M y)) := fun x y => by rw [hF]
  have HR : Hid ((l.drop 0).all F = R) := by rw [hF, hM]; exact hR
  clear hR hM hF
  have hmm := @run_makeMap Tryd.prog
  go_enter Tryd.func56, Tryd.ntmps56
  go_wp2
  go_loopw [13] (fun iv wr => ∃ k : Nat, k ≤ K ∧ iv = .int .i64 k ∧ Hid (SetAt wr w.heap.size k (fun z => (s.take k).contains z)) ∧ Below w.heap.size w wr) (fun iv _ => K - (intOf iv).toNat)
  case atStart => exact ⟨0, by omega, by go_num, SetAt.made _, (Below.refl _ _).alloc (Nat.le_refl _) _⟩
  case round =>
    obtain ⟨k, hk, rfl, Hq, hb⟩ := hrel
    by_cases hlt : k < K
    · have hkl : k < s.length := by rw [HK.out]; exact hlt
      obtain ⟨b, off, rfl, hbB, c0⟩ := Hs.out _ hb k hkl
      have Hst := Lib.hid (take_has s k hkl)
      have hin : inR s[k] := hrs _ (List.getElem_mem hkl)
      generalize s[k] = x at *
      go_wp2_with (first
        | (at_mapUpdate; refine wpList_put_set rfl _ _ _ 85 rfl Tryd.underlying85 w.heap.size k _ Hq.out (by unfold maxLen; omega) rfl _ rfl rfl hin ?_; intro w1 hset1 hgrow1)
        | go_in)
      go_roundw
      case rel => exact ⟨k + 1, by omega, by go_num, (by
        have e : (fun z => (s.take (k + 1)).contains z) = (fun z => (s.take k).contains z || decide (z = x)) := funext fun z => Hst.out z
        show SetAt _ _ _ _
        rw [e]
        exact hset1), hb.grown hgrow1 hb.size (fun j hj => by cases hj; exact Nat.le_refl _)⟩
      case measure => simp [intOf]; omega
    · have hkK : k = K := by omega
      have HS : Hid (SetAt wr w.heap.size K M) := by
        have h := Hq.out
        rw [hkK, ← HK.out, List.take_length] at h
        rw [← HK.out, HM.out]
        exact h
      clear Hq Hs
      generalize wr = wq at *
      go_wp2
      go_loopw [22] (fun iv wr => ∃ k : Nat, k ≤ N ∧ iv = .int .i64 k ∧ Hid ((l.drop k).all F = R) ∧ Hid (SetAt wr w.heap.size K M) ∧ Below w.heap.size w wr) (fun iv _ => N - (intOf iv).toNat)
      case atStart => exact ⟨0, by omega, by go_num, HR, HS, hb⟩
      case round =>
        clear HR HS hb
        obtain ⟨k, hk, rfl, Hq, HS, hb⟩ := hrel
        by_cases hlt : k < N
        · have hkl : k < l.length := by rw [HN.out]; exact hlt
          have Hst := Lib.hid (Hq.out.symm.trans (all_drop _ l k hkl))
          obtain ⟨b, off, rfl, hbB, c0, c1, hx⟩ := Hr.out _ hb k hkl
          obtain ⟨i1, i2⟩ := Hx.out _ (List.getElem_mem hkl)
          have lc := World.block_lt_of_cell? wr _ c0
          simp only at lc
          clear hx Hq
          generalize l[k] = e at *
          obtain ⟨ea, eb⟩ := e
          simp only at *
          rw [HF.out] at Hst
          have hs3 : SetAt (wr.alloc (Obj.cells #[.int .i64 ea, .int .i64 eb] 41)) w.heap.size K M := SetAt.next HS.out (by go_grown : Below wr.heap.size wr _)
          have hrun1 := hs3.look i1 Tryd.underlying85
          have hrun2 := hs3.look i2 Tryd.underlying85
          have HS3 : Hid (SetAt (wr.alloc (Obj.cells #[.int .i64 ea, .int .i64 eb] 41)) w.heap.size K M) := hs3
          clear hs3
          generalize M ea = ma at *
          generalize M eb = mb at *
          cases ma
          · have Hs2 : Hid ((l.drop (k + 1)).all F = R) := by have h := Hst.out; show _ = _; exact h.symm
            go_wp2
            go_roundw
            case rel => exact ⟨k + 1, by omega, by go_num, Hs2, HS3, hb.trans ((by go_grown : Below wr.heap.size wr _).mono hb.size)⟩
            case measure => simp [intOf]; omega
          · cases mb
            · have Hs2 : Hid ((l.drop (k + 1)).all F = R) := by have h := Hst.out; show _ = _; exact h.symm
              go_wp2
              go_roundw
              case rel => exact ⟨k + 1, by omega, by go_num, Hs2, HS3, hb.trans ((by go_grown : Below wr.heap.size wr _).mono hb.size)⟩
              case measure => simp [intOf]; omega
            · have hR : R = false := by have h := Hst.out; exact h
              go_wp2
              go_ret
              exact ⟨by rw [hR]; rfl, hb.trans ((by go_grown : Below wr.heap.size wr _).mono hb.size)⟩
        · obtain rfl : k = N := by omega
          have hR : R = true := by
            have := Hq.out
            rw [List.drop_eq_nil_of_le (by rw [HN.out]; exact Nat.le_refl _)] at this
            exact this.symm
          go_wp2
          go_ret
          exact ⟨by rw [hR]; rfl, hb⟩
end Go.Proofs.YtpoackngngdhlaaDoor


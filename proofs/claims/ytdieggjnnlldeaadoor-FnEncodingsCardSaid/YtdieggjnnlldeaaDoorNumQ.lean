/- Chapter 1: the program's ParseInt. -/
import Derived.Test.YtdieggjnnlldeaaDoorNumP
import Derived.Lib.AppendIntMem
import Derived.Lib.ConvBytes
namespace Go.Proofs.YtdieggjnnlldeaaDoor
open Go.RowKit
set_option linter.unusedVariables false
set_option maxRecDepth 100000

/-- What the listed variables of the library hold, for the walks. -/
structure Laid5 (w : World) : Prop where
  tab : Lib.TabIs Tryd.prog w "internal/strconv.uint64pow10" .u64 Lib.pow10Tab
  syn : ∃ tp p, w.var? Tryd.prog "strconv.ErrSyntax" = some #[.iface tp p]
  rng : ∃ tp p, w.var? Tryd.prog "strconv.ErrRange" = some #[.iface tp p]

theorem var?_below {w w1 : World} {n : String} {cs : Array Value} (h : w.var? Tryd.prog n = some cs) (hb : Below w.heap.size w w1) : w1.var? Tryd.prog n = some cs := by
  unfold World.var? at *
  revert h
  cases hg : Tryd.prog.globalNamed n with
  | none => intro h; simp at h
  | some g =>
    simp only [Option.bind_some]
    intro h
    by_cases hlt : g < w.heap.size
    · rw [hb.block g hlt]; exact h
    · rw [Array.getElem?_eq_none (by omega)] at h; cases h
theorem laid5_below {w w1 : World} (h : Laid5 w) (hb : Below w.heap.size w w1) : Laid5 w1 :=
  ⟨var?_below h.tab hb, h.syn.imp fun tp hp => hp.imp fun p hv => var?_below hv hb, h.rng.imp fun tp hp => hp.imp fun p hv => var?_below hv hb⟩
theorem below_bytesWorld (w : World) (e : TypeId) (s : ByteArray) : Below w.heap.size w (Lib.bytesWorld w e s) :=
  ⟨rfl, rfl, rfl, by rw [Lib.bytesWorld_size]; omega, fun j hj => Lib.bytesWorld_at_old w e s j hj⟩

theorem atoi_below {w w1 : World} {e : TypeId} (h : w1 = w ∨ ∃ t, w1 = Lib.bytesWorld w e t) : Below w.heap.size w w1 := by
  rcases h with rfl | ⟨t, rfl⟩
  · exact Below.refl _ _
  · exact below_bytesWorld _ _ _

set_option maxHeartbeats 1600000 in
theorem implPI (s : ByteArray) (hs : s.size ≤ 1048576) (w : World) (hL : Laid5 w) :
    Calls Tryd.prog 13 #[.string s] w fun e w' => e = .returned (resP (pI s.data.toList)) ∧ Below w.heap.size w w' := by
  have Hp := Lib.hid (pImpl_eq s.data.toList)
  have HL := Lib.hid hL
  clear hL
  cases ha : Lib.atoiAll s.data.toList with
  | «syntax» =>
    obtain ⟨tp, p, hv⟩ := HL.out.syn
    have hr : pI s.data.toList = none := by rw [← Hp.out, pImpl, ha]
    have Hr := Lib.hid hr
    have Hv := Lib.hid hv
    have Ha := Lib.hid ha
    clear hr hv ha
    go_enter Tryd.func13, Tryd.ntmps13
    go_wp2_with fail
    refine (Tryd.strconv_Atoi_syntax_var s (by omega) Ha.out tp p _ Hv.out).mono ?_
    rintro e w1 ⟨N, rfl, _, _, hb⟩
    go_wp2
    go_ret2
    exact ⟨by rw [Hr.out]; rfl, hb⟩
  | range =>
    obtain ⟨tp, p, hv⟩ := HL.out.rng
    have hr : pI s.data.toList = none := by rw [← Hp.out, pImpl, ha]
    have Hr := Lib.hid hr
    have Hv := Lib.hid hv
    have Ha := Lib.hid ha
    clear hr hv ha
    go_enter Tryd.func13, Tryd.ntmps13
    go_wp2_with fail
    refine (Tryd.strconv_Atoi_range_var s (by omega) Ha.out tp p _ Hv.out).mono ?_
    rintro e w1 ⟨N, rfl, _, _, hb⟩
    go_wp2
    go_ret2
    exact ⟨by rw [Hr.out]; rfl, hb⟩
  | ok v =>
    have Ha := Lib.hid ha
    clear ha
    by_cases hv0 : v < -999999999
    · have hr : pI s.data.toList = none := by rw [← Hp.out, pImpl, Ha.out]; exact if_neg (fun h => by omega)
      have Hr := Lib.hid hr
      clear hr
      go_enter Tryd.func13, Tryd.ntmps13
      go_wp2_with fail
      refine (Tryd.strconv_Atoi_ok s (by omega) v Ha.out _).mono ?_
      rintro e w1 ⟨rfl, hw⟩
      have hb := atoi_below hw
      clear hw
      go_wp2
      go_ret2
      exact ⟨by rw [Hr.out]; rfl, hb⟩
    by_cases hv1 : 999999999 < v
    · have hr : pI s.data.toList = none := by rw [← Hp.out, pImpl, Ha.out]; exact if_neg (fun h => by omega)
      have Hr := Lib.hid hr
      clear hr
      go_enter Tryd.func13, Tryd.ntmps13
      go_wp2_with fail
      refine (Tryd.strconv_Atoi_ok s (by omega) v Ha.out _).mono ?_
      rintro e w1 ⟨rfl, hw⟩
      have hb := atoi_below hw
      clear hw
      go_wp2
      go_ret2
      exact ⟨by rw [Hr.out]; rfl, hb⟩
    by_cases hF : Lib.itoa v = s.data.toList
    · have hE : (!((str (Lib.itoa v)).toList == s.toList)) = false := by rw [Lib.toList_data, Lib.toList_data, hF]; simp [str]
      have hr : pI s.data.toList = some v := by rw [← Hp.out, pImpl, Ha.out]; exact if_pos ⟨by omega, by omega, hF⟩
      have Hr := Lib.hid hr
      clear hr hF
      go_enter Tryd.func13, Tryd.ntmps13
      go_wp2_with fail
      refine (Tryd.strconv_Atoi_ok s (by omega) v Ha.out _).mono ?_
      rintro e w1 ⟨rfl, hw⟩
      have hb := atoi_below hw
      have ht := Lib.tabBelow_of_tabIs HL.out.tab w1 hb
      have Ht := Lib.hid ht
      clear hw ht
      go_wp2_with (go_at_call 14; refine (implFI v (by omega) (by omega) _ Ht.out).mono ?_; rintro e w2 ⟨rfl, hb2⟩)
      go_ret2
      exact ⟨by rw [Hr.out]; rfl, hb.trans (hb2.mono hb.size)⟩
    · have hE : (!((str (Lib.itoa v)).toList == s.toList)) = true := by rw [Lib.toList_data, Lib.toList_data]; simpa [str] using hF
      have hr : pI s.data.toList = none := by rw [← Hp.out, pImpl, Ha.out]; exact if_neg (fun h => hF h.2.2)
      have Hr := Lib.hid hr
      clear hr hF
      go_enter Tryd.func13, Tryd.ntmps13
      go_wp2_with fail
      refine (Tryd.strconv_Atoi_ok s (by omega) v Ha.out _).mono ?_
      rintro e w1 ⟨rfl, hw⟩
      have hb := atoi_below hw
      have ht := Lib.tabBelow_of_tabIs HL.out.tab w1 hb
      have Ht := Lib.hid ht
      clear hw ht
      go_wp2_with (go_at_call 14; refine (implFI v (by omega) (by omega) _ Ht.out).mono ?_; rintro e w2 ⟨rfl, hb2⟩)
      go_ret2
      exact ⟨by rw [Hr.out]; rfl, hb.trans (hb2.mono hb.size)⟩
end Go.Proofs.YtdieggjnnlldeaaDoor

/- The law FnEncodings: its walk. -/
import Derived.Test.YtdieggjnnlldeaaDoorEncM
import Derived.Test.YtdieggjnnlldeaaDoorNumImpl
import Derived.Test.YtdieggjnnlldeaaDoorLaidFacts
namespace Go.Proofs.YtdieggjnnlldeaaDoor
open Go.RowKit
set_option linter.unusedVariables false
set_option maxRecDepth 100000

theorem cat_list (a b : List UInt8) : (str a ++ str b).data.toList = a ++ b := by rw [str_append]; rfl
theorem DVcat (a b : List UInt8) (h : a.length + b.length ≤ 1000) (w : World) :
    Calls Tryd.prog 10 #[.string (str a ++ str b)] w fun e w' => e = .returned (.tuple #[.int .i64 (decV (a ++ b)).1, .int .i64 (decV (a ++ b)).2]) ∧ Below w.heap.size w w' := by
  have := implDV (str a ++ str b) (by rw [str_append, str_size, List.length_append]; unfold maxLen; omega) w
  rwa [cat_list] at this
theorem big_any (a : Option Addr) (len cap : Nat) (h : len ≤ 1048576) (w : World) :
    Calls Tryd.prog 6 #[.slice a len cap] w fun e w' => e = .returned (.bool false) ∧ w = w' := by
  go_enter Tryd.func6, Tryd.ntmps6
  go_wp2
  go_ret
  exact ⟨by simp; omega, rfl⟩

theorem DFany (t : List UInt8) (h : t.length ≤ 1000) (w : World) :
    Calls Tryd.prog 12 #[.string (str [] ++ str t), .int .i64 7] w fun e w' => ∃ (y : Int) (b : Bool), e = .returned (.tuple #[.int .i64 y, .bool b]) ∧ w = w' := by
  rw [str_append]
  have hs : (str ([] ++ t)).size ≤ maxLen := by rw [str_size]; unfold maxLen; simp; omega
  by_cases h7 : 7 ≤ (str ([] ++ t)).size
  · exact (implDF_yes _ 7 hs (by omega) (by omega) h7 w).mono fun e w' ⟨h1, h2⟩ => ⟨_, _, h1, h2⟩
  · exact (implDF_no _ 7 hs (.inr (by omega)) w).mono fun e w' ⟨h1, h2⟩ => ⟨_, _, h1, h2⟩
theorem DFcat (m : Nat) (hm : m < 256 ^ 7) (t : List UInt8) (h : t.length ≤ 1000) (w : World) :
    Calls Tryd.prog 12 #[.string (str (beB m 7) ++ str t), .int .i64 7] w fun e w' => e = .returned (.tuple #[.int .i64 m, .bool true]) ∧ w = w' := by
  rw [str_append]
  have hs : (str (beB m 7 ++ t)).size ≤ maxLen := by rw [str_size, List.length_append, beB_length]; unfold maxLen; omega
  have h7 : 7 ≤ (str (beB m 7 ++ t)).size := by rw [str_size, List.length_append, beB_length]; omega
  have := implDF_yes _ 7 hs (by omega) (by omega) h7 w
  rw [str_toList, List.take_left' (beB_length m 7), decB_beB, Nat.mod_eq_of_lt hm] at this
  exact this
theorem encF7 (m : Nat) (hm : m < 256 ^ 7) : encF m 7 = beB m 7 := by unfold encF; rw [if_pos (Nat.div_eq_of_lt hm)]
theorem encF7_big (m : Nat) (hm : 256 ^ 7 ≤ m) : encF m 7 = [] := by
  unfold encF; rw [if_neg (by have := Nat.div_pos hm (Nat.pow_pos (by omega)); omega)]

set_option maxHeartbeats 6400000 in
theorem law_walk (a : Option Addr) (cap : Nat) (zs : List Int) (w : World) (hl : zs.length ≤ 1048576) (hz : CodeIn a zs w) (h5 : Laid5 w) :
    Calls Tryd.prog 3 #[.slice a zs.length cap] w fun e w' => e = .returned (.bool true) ∧ Below w.heap.size w w' := by
  have hN := numD_range zs 0 (h00 zs)
  have hT := textD_len zs 40 (by omega) 0 (h00 zs)
  have hD := dvD_len zs
  have c1 := Lib.hid (drawEV_any a cap zs w hl hz)
  have c2 := Lib.hid (fun ww hzz => drawEH_any a cap zs ww hl hzz)
  have c3 := Lib.hid (fun ww hzz => drawDV_any a cap zs ww hl hzz)
  generalize (numD zs 0 (h00 zs)).1 = N at hN c1
  generalize (textD zs 40 0 (h00 zs)).1 = T at hT c2
  generalize dvD zs = D at hD c3
  have hT' : T.length ≤ 40 := by omega
  have hTs : (str T).size ≤ 40 := by rw [str_size]; omega
  have hDs : (str D).size ≤ 2000 := by rw [str_size]; omega
  have hv := encV_len N
  have HN := Lib.hid hN
  have Hz := Lib.hid hz
  have H5 := Lib.hid h5
  have hs1 : (str (encV N)).size + (str T).size < 100 := by rw [str_size, str_size]; omega
  have hs0 : (str ([] : List UInt8)).size + (str T).size < 100 := by rw [str_size, str_size]; simp; omega
  have hhex := Lib.hid (fun ww => implEH (str T) (by omega) ww)
  have hdh := Lib.hid (fun ww => by
    have := implDH (str (hexE T)) (by rw [str_size, hexE_length]; omega) ww
    rw [str_toList, decH_hexE] at this
    exact this : ∀ ww, Calls Tryd.prog 15 #[.string (str (hexE T))] ww fun e w' => e = .returned (.tuple #[.string (str T), .bool true]) ∧ Below ww.heap.size ww w')
  rw [str_toList] at hhex
  clear hz h5 hT hN
  by_cases hI : inB N 0 562949953421311 = true
  · have hI2 := hI
    simp only [inB, Bool.and_eq_true, decide_eq_true_eq] at hI2
    have hI3 := hI2.1
    have hI4 := hI2.2
    obtain ⟨m, hm⟩ := Int.eq_ofNat_of_zero_le hI3
    have heV : encV N = vB m := by rw [hm]; exact encV_nat m (by omega)
    have c4 := Lib.hid (fun ww => by
        have := DVcat (encV N) T (by omega) ww
        rw [heV, decV_vB m (by omega), ← heV, ← hm] at this
        exact this : ∀ ww, Calls Tryd.prog 10 #[.string (str (encV N) ++ str T)] ww fun e w' => e = .returned (.tuple #[.int .i64 N, .int .i64 ((encV N).length : Int)]) ∧ Below ww.heap.size ww w')
    rw [← str_size] at c4
    have hne : ¬ (str (encV N)).toList = [] := by rw [Lib.toList_data, str_toList, heV]; exact vB_ne m
    have hne' : (str (encV N)).toList.isEmpty = false := by rw [List.isEmpty_eq_false_iff]; exact hne
    have cF := Lib.hid (fun ww => by
        have := implEF_yes m 7 (by have := HN.out; omega) (by omega) (by omega) ww
        rw [encF7 m (by omega), ← hm] at this
        exact this : ∀ ww, Calls Tryd.prog 11 #[.int .i64 N, .int .i64 7] ww fun e w' => e = .returned (.string (str (beB m 7))) ∧ Below ww.heap.size ww w')
    have cG := Lib.hid (fun ww => by
        have := DFcat m (by omega) T (by omega) ww
        rw [← hm] at this
        exact this : ∀ ww, Calls Tryd.prog 12 #[.string (str (beB m 7) ++ str T), .int .i64 7] ww fun e w' => e = .returned (.tuple #[.int .i64 N, .bool true]) ∧ ww = w')
    have hbs : (str (beB m 7)).size = 7 := by rw [str_size, beB_length]
    have hs7 : (str (beB m 7)).size + (str T).size < 100 := by rw [hbs]; omega
    have hbn : ¬ (str (beB m 7)).toList = [] := by rw [Lib.toList_data, str_toList]; simp [beB]
    have hbe : (str (beB m 7)).toList.isEmpty = false := by rw [Lib.toList_data, str_toList]; simp [beB]
    by_cases hdec : N ≤ 999999999
    · have cP := Lib.hid (fun ww h55 => by
          have := implPI (str (Lib.itoa N)) (by rw [str_size]; have := Lib.itoa_length_le N HN.out.1 HN.out.2; omega) ww h55
          rw [str_toList, pI_itoa N (by omega) (by omega)] at this
          exact this : ∀ ww, Laid5 ww → Calls Tryd.prog 13 #[.string (str (Lib.itoa N))] ww fun e w' => e = .returned (.tuple #[.int .i64 N, .bool true]) ∧ Below ww.heap.size ww w')
      have hd0 : -1000000000 < N := by omega
      have hd1 : N < 1000000000 := by omega
      clear hI hI2 heV hdec hm
      go_enter Tryd.func3, Tryd.ntmps3
      go_wp2_with fail
      refine (big_any a zs.length cap hl _).mono ?_
      rintro e w0 ⟨rfl, rfl⟩
      go_wp2_with fail
      refine c1.out.mono ?_
      rintro e w1 ⟨rfl, hb1⟩
      go_wp2_with fail
      refine (c2.out w1 (Hz.out.keep hb1)).mono ?_
      rintro e w2 ⟨rfl, hb2⟩
      have Hb2 := hb1.trans (hb2.mono hb1.size)
      clear hb2 hb1
      go_wp2_with fail
      refine (implEV N w2).mono ?_
      rintro e w3 ⟨rfl, hb3⟩
      have Hb3 := Hb2.trans (hb3.mono Hb2.size)
      clear Hb2 hb3
      go_wp2_with fail
      refine (c4.out w3).mono ?_
      rintro e w4 ⟨rfl, hb4⟩
      have Hb4 := Hb3.trans (hb4.mono Hb3.size)
      clear Hb3 hb4
      go_wp2_with fail
      refine (cF.out w4).mono ?_
      rintro e w5 ⟨rfl, hb5⟩
      have Hb5 := Hb4.trans (hb5.mono Hb4.size)
      clear Hb4 hb5
      go_wp2_with fail
      refine (cG.out w5).mono ?_
      rintro e w6 ⟨rfl, rfl⟩
      go_wp2_with fail
      refine (implFI N HN.out.1 HN.out.2 w5 (laid5_below H5.out Hb5).tab).mono ?_
      rintro e w7 ⟨rfl, hb7⟩
      have Hb7 := Hb5.trans (hb7.mono Hb5.size)
      clear Hb5 hb7
      go_wp2_with fail
      refine (cP.out w7 (laid5_below H5.out Hb7)).mono ?_
      rintro e w8 ⟨rfl, hb8⟩
      have Hb8 := Hb7.trans (hb8.mono Hb7.size)
      clear Hb7 hb8
      go_wp2_with fail
      refine (hhex.out w8).mono ?_
      rintro e w9 ⟨rfl, hb9⟩
      have Hb9 := Hb8.trans (hb9.mono Hb8.size)
      clear Hb8 hb9
      go_wp2_with fail
      refine (hdh.out w9).mono ?_
      rintro e w10 ⟨rfl, hb10⟩
      have Hb10 := Hb9.trans (hb10.mono Hb9.size)
      clear Hb9 hb10
      go_wp2_with fail
      refine (c3.out w10 (Hz.out.keep Hb10)).mono ?_
      rintro e w11 ⟨rfl, hb11⟩
      have Hb11 := Hb10.trans (hb11.mono Hb10.size)
      clear Hb10 hb11
      rcases decV_ok D with hd | ⟨p, hp1, hp2, hpv, hpm, hd⟩
      · have cV := Lib.hid (implDV (str D) (by unfold maxLen; omega) w11)
        rw [str_toList, hd] at cV
        clear hd
        go_wp2_with fail
        refine cV.out.mono ?_
        rintro e w12 ⟨rfl, hb12⟩
        have Hb12 := Hb11.trans (hb12.mono Hb11.size)
        clear Hb11 hb12
        go_wp2
        go_ret
        exact ⟨rfl, Hb12⟩
      · have cV := Lib.hid (implDV (str D) (by unfold maxLen; omega) w11)
        rw [str_toList, hd] at cV
        have hpsz : p ≤ (str D).size := by rw [str_size]; exact hp2
        have hpsz' : (p : Int) ≤ ((str D).size : Int) := by omega
        have hq : (str (encV (numV (D.take p) : Nat))).toList == ((str D).extract 0 p).toList := by
          rw [encV_nat _ hpm, hpv, Lib.toList_data, Lib.toList_data, Lib.extract_data]; simp [str]
        have hE : ((str (encV (numV (D.take p) : Nat))).toList == ((str D).extract 0 p).toList) = true := hq
        generalize hzz : numV (D.take p) = z at cV hE
        have hp0 : (0 : Int) < p := by omega
        have hpne : ((p : Int) == 0) = false := by rw [beq_eq_false_iff_ne]; omega
        have HDs := Lib.hid hDs
        clear hd hp2 hpv hpm hq hzz
        go_wp2_with fail
        refine cV.out.mono ?_
        rintro e w12 ⟨rfl, hb12⟩
        have Hb12 := Hb11.trans (hb12.mono Hb11.size)
        clear Hb11 hb12
        go_wp2_with fail
        refine (c3.out w12 (Hz.out.keep Hb12)).mono ?_
        rintro e w13 ⟨rfl, hb13⟩
        have Hb13 := Hb12.trans (hb13.mono Hb12.size)
        clear Hb12 hb13
        go_wp2_with fail
        refine (c3.out w13 (Hz.out.keep Hb13)).mono ?_
        rintro e w14 ⟨rfl, hb14⟩
        have Hb14 := Hb13.trans (hb14.mono Hb13.size)
        clear Hb13 hb14
        go_wp2_with fail
        refine (implEV (z : Int) w14).mono ?_
        rintro e w15 ⟨rfl, hb15⟩
        have Hb15 := Hb14.trans (hb15.mono Hb14.size)
        clear Hb14 hb15
        go_wp2_with fail
        refine (c3.out w15 (Hz.out.keep Hb15)).mono ?_
        rintro e w16 ⟨rfl, hb16⟩
        have Hb16 := Hb15.trans (hb16.mono Hb15.size)
        clear Hb15 hb16
        go_wp2
        go_ret
        exact ⟨rfl, Hb16⟩
    · have cP := Lib.hid (fun ww h55 => by
          have := implPI (str (Lib.itoa N)) (by rw [str_size]; have := Lib.itoa_length_le N HN.out.1 HN.out.2; omega) ww h55
          rw [str_toList, pI_itoa_big N HN.out.1 HN.out.2 (by omega)] at this
          exact this : ∀ ww, Laid5 ww → Calls Tryd.prog 13 #[.string (str (Lib.itoa N))] ww fun e w' => e = .returned (.tuple #[.int .i64 0, .bool false]) ∧ Below ww.heap.size ww w')
      have hd1 : 1000000000 ≤ N := by omega
      clear hI hI2 heV hdec hm
      go_enter Tryd.func3, Tryd.ntmps3
      go_wp2_with fail
      refine (big_any a zs.length cap hl _).mono ?_
      rintro e w0 ⟨rfl, rfl⟩
      go_wp2_with fail
      refine c1.out.mono ?_
      rintro e w1 ⟨rfl, hb1⟩
      go_wp2_with fail
      refine (c2.out w1 (Hz.out.keep hb1)).mono ?_
      rintro e w2 ⟨rfl, hb2⟩
      have Hb2 := hb1.trans (hb2.mono hb1.size)
      clear hb2 hb1
      go_wp2_with fail
      refine (implEV N w2).mono ?_
      rintro e w3 ⟨rfl, hb3⟩
      have Hb3 := Hb2.trans (hb3.mono Hb2.size)
      clear Hb2 hb3
      go_wp2_with fail
      refine (c4.out w3).mono ?_
      rintro e w4 ⟨rfl, hb4⟩
      have Hb4 := Hb3.trans (hb4.mono Hb3.size)
      clear Hb3 hb4
      go_wp2_with fail
      refine (cF.out w4).mono ?_
      rintro e w5 ⟨rfl, hb5⟩
      have Hb5 := Hb4.trans (hb5.mono Hb4.size)
      clear Hb4 hb5
      go_wp2_with fail
      refine (cG.out w5).mono ?_
      rintro e w6 ⟨rfl, rfl⟩
      go_wp2_with fail
      refine (implFI N HN.out.1 HN.out.2 w5 (laid5_below H5.out Hb5).tab).mono ?_
      rintro e w7 ⟨rfl, hb7⟩
      have Hb7 := Hb5.trans (hb7.mono Hb5.size)
      clear Hb5 hb7
      go_wp2_with fail
      refine (cP.out w7 (laid5_below H5.out Hb7)).mono ?_
      rintro e w8 ⟨rfl, hb8⟩
      have Hb8 := Hb7.trans (hb8.mono Hb7.size)
      clear Hb7 hb8
      go_wp2_with fail
      refine (hhex.out w8).mono ?_
      rintro e w9 ⟨rfl, hb9⟩
      have Hb9 := Hb8.trans (hb9.mono Hb8.size)
      clear Hb8 hb9
      go_wp2_with fail
      refine (hdh.out w9).mono ?_
      rintro e w10 ⟨rfl, hb10⟩
      have Hb10 := Hb9.trans (hb10.mono Hb9.size)
      clear Hb9 hb10
      go_wp2_with fail
      refine (c3.out w10 (Hz.out.keep Hb10)).mono ?_
      rintro e w11 ⟨rfl, hb11⟩
      have Hb11 := Hb10.trans (hb11.mono Hb10.size)
      clear Hb10 hb11
      rcases decV_ok D with hd | ⟨p, hp1, hp2, hpv, hpm, hd⟩
      · have cV := Lib.hid (implDV (str D) (by unfold maxLen; omega) w11)
        rw [str_toList, hd] at cV
        clear hd
        go_wp2_with fail
        refine cV.out.mono ?_
        rintro e w12 ⟨rfl, hb12⟩
        have Hb12 := Hb11.trans (hb12.mono Hb11.size)
        clear Hb11 hb12
        go_wp2
        go_ret
        exact ⟨rfl, Hb12⟩
      · have cV := Lib.hid (implDV (str D) (by unfold maxLen; omega) w11)
        rw [str_toList, hd] at cV
        have hpsz : p ≤ (str D).size := by rw [str_size]; exact hp2
        have hpsz' : (p : Int) ≤ ((str D).size : Int) := by omega
        have hq : (str (encV (numV (D.take p) : Nat))).toList == ((str D).extract 0 p).toList := by
          rw [encV_nat _ hpm, hpv, Lib.toList_data, Lib.toList_data, Lib.extract_data]; simp [str]
        have hE : ((str (encV (numV (D.take p) : Nat))).toList == ((str D).extract 0 p).toList) = true := hq
        generalize hzz : numV (D.take p) = z at cV hE
        have hp0 : (0 : Int) < p := by omega
        have hpne : ((p : Int) == 0) = false := by rw [beq_eq_false_iff_ne]; omega
        have HDs := Lib.hid hDs
        clear hd hp2 hpv hpm hq hzz
        go_wp2_with fail
        refine cV.out.mono ?_
        rintro e w12 ⟨rfl, hb12⟩
        have Hb12 := Hb11.trans (hb12.mono Hb11.size)
        clear Hb11 hb12
        go_wp2_with fail
        refine (c3.out w12 (Hz.out.keep Hb12)).mono ?_
        rintro e w13 ⟨rfl, hb13⟩
        have Hb13 := Hb12.trans (hb13.mono Hb12.size)
        clear Hb12 hb13
        go_wp2_with fail
        refine (c3.out w13 (Hz.out.keep Hb13)).mono ?_
        rintro e w14 ⟨rfl, hb14⟩
        have Hb14 := Hb13.trans (hb14.mono Hb13.size)
        clear Hb13 hb14
        go_wp2_with fail
        refine (implEV (z : Int) w14).mono ?_
        rintro e w15 ⟨rfl, hb15⟩
        have Hb15 := Hb14.trans (hb15.mono Hb14.size)
        clear Hb14 hb15
        go_wp2_with fail
        refine (c3.out w15 (Hz.out.keep Hb15)).mono ?_
        rintro e w16 ⟨rfl, hb16⟩
        have Hb16 := Hb15.trans (hb16.mono Hb15.size)
        clear Hb15 hb16
        go_wp2
        go_ret
        exact ⟨rfl, Hb16⟩
  · have hI2 : N < 0 ∨ 562949953421311 < N := by simp [inB] at hI; omega
    have heV : encV N = [] := by unfold encV; rw [if_neg hI]
    have c4 := Lib.hid (fun ww => DVcat (encV N) T (by omega) ww)
    have hne : (str (encV N)).toList = [] := by rw [Lib.toList_data, str_toList, heV]
    rcases hI2 with hneg | hbig
    · have hcf : inB 7 1 7 = false ∨ N < 0 := .inr hneg
      have cF := Lib.hid (fun ww => implEF_no N 7 hcf ww : ∀ ww, Calls Tryd.prog 11 #[.int .i64 N, .int .i64 7] ww fun e w' => e = .returned (.string (str [])) ∧ Below ww.heap.size ww w')
      have cG := Lib.hid (fun ww => DFany T (by omega) ww)
      have hbs : (str ([] : List UInt8)).size = 0 := rfl
      have hbn : (str ([] : List UInt8)).toList = [] := by rw [Lib.toList_data, str_toList]
      by_cases hdec : -999999999 ≤ N
      · have cP := Lib.hid (fun ww h55 => by
            have := implPI (str (Lib.itoa N)) (by rw [str_size]; have := Lib.itoa_length_le N HN.out.1 HN.out.2; omega) ww h55
            rw [str_toList, pI_itoa N (by omega) (by omega)] at this
            exact this : ∀ ww, Laid5 ww → Calls Tryd.prog 13 #[.string (str (Lib.itoa N))] ww fun e w' => e = .returned (.tuple #[.int .i64 N, .bool true]) ∧ Below ww.heap.size ww w')
        have hd0 : -1000000000 < N := by omega
        have hd1 : N < 1000000000 := by omega
        clear hI heV hdec hcf
        go_enter Tryd.func3, Tryd.ntmps3
        go_wp2_with fail
        refine (big_any a zs.length cap hl _).mono ?_
        rintro e w0 ⟨rfl, rfl⟩
        go_wp2_with fail
        refine c1.out.mono ?_
        rintro e w1 ⟨rfl, hb1⟩
        go_wp2_with fail
        refine (c2.out w1 (Hz.out.keep hb1)).mono ?_
        rintro e w2 ⟨rfl, hb2⟩
        have Hb2 := hb1.trans (hb2.mono hb1.size)
        clear hb2 hb1
        go_wp2_with fail
        refine (implEV N w2).mono ?_
        rintro e w3 ⟨rfl, hb3⟩
        have Hb3 := Hb2.trans (hb3.mono Hb2.size)
        clear Hb2 hb3
        go_wp2_with fail
        refine (c4.out w3).mono ?_
        rintro e w4 ⟨rfl, hb4⟩
        have Hb4 := Hb3.trans (hb4.mono Hb3.size)
        clear Hb3 hb4
        go_wp2_with fail
        refine (cF.out w4).mono ?_
        rintro e w5 ⟨rfl, hb5⟩
        have Hb5 := Hb4.trans (hb5.mono Hb4.size)
        clear Hb4 hb5
        go_wp2_with fail
        refine (cG.out w5).mono ?_
        rintro e w6 ⟨y, b, rfl, rfl⟩
        go_wp2_with fail
        refine (implFI N HN.out.1 HN.out.2 w5 (laid5_below H5.out Hb5).tab).mono ?_
        rintro e w7 ⟨rfl, hb7⟩
        have Hb7 := Hb5.trans (hb7.mono Hb5.size)
        clear Hb5 hb7
        go_wp2_with fail
        refine (cP.out w7 (laid5_below H5.out Hb7)).mono ?_
        rintro e w8 ⟨rfl, hb8⟩
        have Hb8 := Hb7.trans (hb8.mono Hb7.size)
        clear Hb7 hb8
        go_wp2_with fail
        refine (hhex.out w8).mono ?_
        rintro e w9 ⟨rfl, hb9⟩
        have Hb9 := Hb8.trans (hb9.mono Hb8.size)
        clear Hb8 hb9
        go_wp2_with fail
        refine (hdh.out w9).mono ?_
        rintro e w10 ⟨rfl, hb10⟩
        have Hb10 := Hb9.trans (hb10.mono Hb9.size)
        clear Hb9 hb10
        go_wp2_with fail
        refine (c3.out w10 (Hz.out.keep Hb10)).mono ?_
        rintro e w11 ⟨rfl, hb11⟩
        have Hb11 := Hb10.trans (hb11.mono Hb10.size)
        clear Hb10 hb11
        rcases decV_ok D with hd | ⟨p, hp1, hp2, hpv, hpm, hd⟩
        · have cV := Lib.hid (implDV (str D) (by unfold maxLen; omega) w11)
          rw [str_toList, hd] at cV
          clear hd
          go_wp2_with fail
          refine cV.out.mono ?_
          rintro e w12 ⟨rfl, hb12⟩
          have Hb12 := Hb11.trans (hb12.mono Hb11.size)
          clear Hb11 hb12
          go_wp2
          go_ret
          exact ⟨rfl, Hb12⟩
        · have cV := Lib.hid (implDV (str D) (by unfold maxLen; omega) w11)
          rw [str_toList, hd] at cV
          have hpsz : p ≤ (str D).size := by rw [str_size]; exact hp2
          have hpsz' : (p : Int) ≤ ((str D).size : Int) := by omega
          have hq : (str (encV (numV (D.take p) : Nat))).toList == ((str D).extract 0 p).toList := by
            rw [encV_nat _ hpm, hpv, Lib.toList_data, Lib.toList_data, Lib.extract_data]; simp [str]
          have hE : ((str (encV (numV (D.take p) : Nat))).toList == ((str D).extract 0 p).toList) = true := hq
          generalize hzz : numV (D.take p) = z at cV hE
          have hp0 : (0 : Int) < p := by omega
          have hpne : ((p : Int) == 0) = false := by rw [beq_eq_false_iff_ne]; omega
          have HDs := Lib.hid hDs
          clear hd hp2 hpv hpm hq hzz
          go_wp2_with fail
          refine cV.out.mono ?_
          rintro e w12 ⟨rfl, hb12⟩
          have Hb12 := Hb11.trans (hb12.mono Hb11.size)
          clear Hb11 hb12
          go_wp2_with fail
          refine (c3.out w12 (Hz.out.keep Hb12)).mono ?_
          rintro e w13 ⟨rfl, hb13⟩
          have Hb13 := Hb12.trans (hb13.mono Hb12.size)
          clear Hb12 hb13
          go_wp2_with fail
          refine (c3.out w13 (Hz.out.keep Hb13)).mono ?_
          rintro e w14 ⟨rfl, hb14⟩
          have Hb14 := Hb13.trans (hb14.mono Hb13.size)
          clear Hb13 hb14
          go_wp2_with fail
          refine (implEV (z : Int) w14).mono ?_
          rintro e w15 ⟨rfl, hb15⟩
          have Hb15 := Hb14.trans (hb15.mono Hb14.size)
          clear Hb14 hb15
          go_wp2_with fail
          refine (c3.out w15 (Hz.out.keep Hb15)).mono ?_
          rintro e w16 ⟨rfl, hb16⟩
          have Hb16 := Hb15.trans (hb16.mono Hb15.size)
          clear Hb15 hb16
          go_wp2
          go_ret
          exact ⟨rfl, Hb16⟩
      · have cP := Lib.hid (fun ww h55 => by
            have := implPI (str (Lib.itoa N)) (by rw [str_size]; have := Lib.itoa_length_le N HN.out.1 HN.out.2; omega) ww h55
            rw [str_toList, pI_itoa_big N HN.out.1 HN.out.2 (by omega)] at this
            exact this : ∀ ww, Laid5 ww → Calls Tryd.prog 13 #[.string (str (Lib.itoa N))] ww fun e w' => e = .returned (.tuple #[.int .i64 0, .bool false]) ∧ Below ww.heap.size ww w')
        have hd1 : N ≤ -1000000000 := by omega
        clear hI heV hdec hcf
        go_enter Tryd.func3, Tryd.ntmps3
        go_wp2_with fail
        refine (big_any a zs.length cap hl _).mono ?_
        rintro e w0 ⟨rfl, rfl⟩
        go_wp2_with fail
        refine c1.out.mono ?_
        rintro e w1 ⟨rfl, hb1⟩
        go_wp2_with fail
        refine (c2.out w1 (Hz.out.keep hb1)).mono ?_
        rintro e w2 ⟨rfl, hb2⟩
        have Hb2 := hb1.trans (hb2.mono hb1.size)
        clear hb2 hb1
        go_wp2_with fail
        refine (implEV N w2).mono ?_
        rintro e w3 ⟨rfl, hb3⟩
        have Hb3 := Hb2.trans (hb3.mono Hb2.size)
        clear Hb2 hb3
        go_wp2_with fail
        refine (c4.out w3).mono ?_
        rintro e w4 ⟨rfl, hb4⟩
        have Hb4 := Hb3.trans (hb4.mono Hb3.size)
        clear Hb3 hb4
        go_wp2_with fail
        refine (cF.out w4).mono ?_
        rintro e w5 ⟨rfl, hb5⟩
        have Hb5 := Hb4.trans (hb5.mono Hb4.size)
        clear Hb4 hb5
        go_wp2_with fail
        refine (cG.out w5).mono ?_
        rintro e w6 ⟨y, b, rfl, rfl⟩
        go_wp2_with fail
        refine (implFI N HN.out.1 HN.out.2 w5 (laid5_below H5.out Hb5).tab).mono ?_
        rintro e w7 ⟨rfl, hb7⟩
        have Hb7 := Hb5.trans (hb7.mono Hb5.size)
        clear Hb5 hb7
        go_wp2_with fail
        refine (cP.out w7 (laid5_below H5.out Hb7)).mono ?_
        rintro e w8 ⟨rfl, hb8⟩
        have Hb8 := Hb7.trans (hb8.mono Hb7.size)
        clear Hb7 hb8
        go_wp2_with fail
        refine (hhex.out w8).mono ?_
        rintro e w9 ⟨rfl, hb9⟩
        have Hb9 := Hb8.trans (hb9.mono Hb8.size)
        clear Hb8 hb9
        go_wp2_with fail
        refine (hdh.out w9).mono ?_
        rintro e w10 ⟨rfl, hb10⟩
        have Hb10 := Hb9.trans (hb10.mono Hb9.size)
        clear Hb9 hb10
        go_wp2_with fail
        refine (c3.out w10 (Hz.out.keep Hb10)).mono ?_
        rintro e w11 ⟨rfl, hb11⟩
        have Hb11 := Hb10.trans (hb11.mono Hb10.size)
        clear Hb10 hb11
        rcases decV_ok D with hd | ⟨p, hp1, hp2, hpv, hpm, hd⟩
        · have cV := Lib.hid (implDV (str D) (by unfold maxLen; omega) w11)
          rw [str_toList, hd] at cV
          clear hd
          go_wp2_with fail
          refine cV.out.mono ?_
          rintro e w12 ⟨rfl, hb12⟩
          have Hb12 := Hb11.trans (hb12.mono Hb11.size)
          clear Hb11 hb12
          go_wp2
          go_ret
          exact ⟨rfl, Hb12⟩
        · have cV := Lib.hid (implDV (str D) (by unfold maxLen; omega) w11)
          rw [str_toList, hd] at cV
          have hpsz : p ≤ (str D).size := by rw [str_size]; exact hp2
          have hpsz' : (p : Int) ≤ ((str D).size : Int) := by omega
          have hq : (str (encV (numV (D.take p) : Nat))).toList == ((str D).extract 0 p).toList := by
            rw [encV_nat _ hpm, hpv, Lib.toList_data, Lib.toList_data, Lib.extract_data]; simp [str]
          have hE : ((str (encV (numV (D.take p) : Nat))).toList == ((str D).extract 0 p).toList) = true := hq
          generalize hzz : numV (D.take p) = z at cV hE
          have hp0 : (0 : Int) < p := by omega
          have hpne : ((p : Int) == 0) = false := by rw [beq_eq_false_iff_ne]; omega
          have HDs := Lib.hid hDs
          clear hd hp2 hpv hpm hq hzz
          go_wp2_with fail
          refine cV.out.mono ?_
          rintro e w12 ⟨rfl, hb12⟩
          have Hb12 := Hb11.trans (hb12.mono Hb11.size)
          clear Hb11 hb12
          go_wp2_with fail
          refine (c3.out w12 (Hz.out.keep Hb12)).mono ?_
          rintro e w13 ⟨rfl, hb13⟩
          have Hb13 := Hb12.trans (hb13.mono Hb12.size)
          clear Hb12 hb13
          go_wp2_with fail
          refine (c3.out w13 (Hz.out.keep Hb13)).mono ?_
          rintro e w14 ⟨rfl, hb14⟩
          have Hb14 := Hb13.trans (hb14.mono Hb13.size)
          clear Hb13 hb14
          go_wp2_with fail
          refine (implEV (z : Int) w14).mono ?_
          rintro e w15 ⟨rfl, hb15⟩
          have Hb15 := Hb14.trans (hb15.mono Hb14.size)
          clear Hb14 hb15
          go_wp2_with fail
          refine (c3.out w15 (Hz.out.keep Hb15)).mono ?_
          rintro e w16 ⟨rfl, hb16⟩
          have Hb16 := Hb15.trans (hb16.mono Hb15.size)
          clear Hb15 hb16
          go_wp2
          go_ret
          exact ⟨rfl, Hb16⟩
    · obtain ⟨m, hm⟩ := Int.eq_ofNat_of_zero_le (show 0 ≤ N by omega)
      by_cases hfx : N < 72057594037927936
      · have cF := Lib.hid (fun ww => by
            have := implEF_yes m 7 (by have := HN.out; omega) (by omega) (by omega) ww
            rw [encF7 m (by omega), ← hm] at this
            exact this : ∀ ww, Calls Tryd.prog 11 #[.int .i64 N, .int .i64 7] ww fun e w' => e = .returned (.string (str (beB m 7))) ∧ Below ww.heap.size ww w')
        have cG := Lib.hid (fun ww => by
            have := DFcat m (by omega) T (by omega) ww
            rw [← hm] at this
            exact this : ∀ ww, Calls Tryd.prog 12 #[.string (str (beB m 7) ++ str T), .int .i64 7] ww fun e w' => e = .returned (.tuple #[.int .i64 N, .bool true]) ∧ ww = w')
        have hbs : (str (beB m 7)).size = 7 := by rw [str_size, beB_length]
        have hs7 : (str (beB m 7)).size + (str T).size < 100 := by rw [hbs]; omega
        have hbn : ¬ (str (beB m 7)).toList = [] := by rw [Lib.toList_data, str_toList]; simp [beB]
        have hbe : (str (beB m 7)).toList.isEmpty = false := by rw [Lib.toList_data, str_toList]; simp [beB]
        have cP := Lib.hid (fun ww h55 => by
            have := implPI (str (Lib.itoa N)) (by rw [str_size]; have := Lib.itoa_length_le N HN.out.1 HN.out.2; omega) ww h55
            rw [str_toList, pI_itoa_big N HN.out.1 HN.out.2 (by omega)] at this
            exact this : ∀ ww, Laid5 ww → Calls Tryd.prog 13 #[.string (str (Lib.itoa N))] ww fun e w' => e = .returned (.tuple #[.int .i64 0, .bool false]) ∧ Below ww.heap.size ww w')
        have hd1 : 1000000000 ≤ N := by omega
        clear hI heV hm
        go_enter Tryd.func3, Tryd.ntmps3
        go_wp2_with fail
        refine (big_any a zs.length cap hl _).mono ?_
        rintro e w0 ⟨rfl, rfl⟩
        go_wp2_with fail
        refine c1.out.mono ?_
        rintro e w1 ⟨rfl, hb1⟩
        go_wp2_with fail
        refine (c2.out w1 (Hz.out.keep hb1)).mono ?_
        rintro e w2 ⟨rfl, hb2⟩
        have Hb2 := hb1.trans (hb2.mono hb1.size)
        clear hb2 hb1
        go_wp2_with fail
        refine (implEV N w2).mono ?_
        rintro e w3 ⟨rfl, hb3⟩
        have Hb3 := Hb2.trans (hb3.mono Hb2.size)
        clear Hb2 hb3
        go_wp2_with fail
        refine (c4.out w3).mono ?_
        rintro e w4 ⟨rfl, hb4⟩
        have Hb4 := Hb3.trans (hb4.mono Hb3.size)
        clear Hb3 hb4
        go_wp2_with fail
        refine (cF.out w4).mono ?_
        rintro e w5 ⟨rfl, hb5⟩
        have Hb5 := Hb4.trans (hb5.mono Hb4.size)
        clear Hb4 hb5
        go_wp2_with fail
        refine (cG.out w5).mono ?_
        rintro e w6 ⟨rfl, rfl⟩
        go_wp2_with fail
        refine (implFI N HN.out.1 HN.out.2 w5 (laid5_below H5.out Hb5).tab).mono ?_
        rintro e w7 ⟨rfl, hb7⟩
        have Hb7 := Hb5.trans (hb7.mono Hb5.size)
        clear Hb5 hb7
        go_wp2_with fail
        refine (cP.out w7 (laid5_below H5.out Hb7)).mono ?_
        rintro e w8 ⟨rfl, hb8⟩
        have Hb8 := Hb7.trans (hb8.mono Hb7.size)
        clear Hb7 hb8
        go_wp2_with fail
        refine (hhex.out w8).mono ?_
        rintro e w9 ⟨rfl, hb9⟩
        have Hb9 := Hb8.trans (hb9.mono Hb8.size)
        clear Hb8 hb9
        go_wp2_with fail
        refine (hdh.out w9).mono ?_
        rintro e w10 ⟨rfl, hb10⟩
        have Hb10 := Hb9.trans (hb10.mono Hb9.size)
        clear Hb9 hb10
        go_wp2_with fail
        refine (c3.out w10 (Hz.out.keep Hb10)).mono ?_
        rintro e w11 ⟨rfl, hb11⟩
        have Hb11 := Hb10.trans (hb11.mono Hb10.size)
        clear Hb10 hb11
        rcases decV_ok D with hd | ⟨p, hp1, hp2, hpv, hpm, hd⟩
        · have cV := Lib.hid (implDV (str D) (by unfold maxLen; omega) w11)
          rw [str_toList, hd] at cV
          clear hd
          go_wp2_with fail
          refine cV.out.mono ?_
          rintro e w12 ⟨rfl, hb12⟩
          have Hb12 := Hb11.trans (hb12.mono Hb11.size)
          clear Hb11 hb12
          go_wp2
          go_ret
          exact ⟨rfl, Hb12⟩
        · have cV := Lib.hid (implDV (str D) (by unfold maxLen; omega) w11)
          rw [str_toList, hd] at cV
          have hpsz : p ≤ (str D).size := by rw [str_size]; exact hp2
          have hpsz' : (p : Int) ≤ ((str D).size : Int) := by omega
          have hq : (str (encV (numV (D.take p) : Nat))).toList == ((str D).extract 0 p).toList := by
            rw [encV_nat _ hpm, hpv, Lib.toList_data, Lib.toList_data, Lib.extract_data]; simp [str]
          have hE : ((str (encV (numV (D.take p) : Nat))).toList == ((str D).extract 0 p).toList) = true := hq
          generalize hzz : numV (D.take p) = z at cV hE
          have hp0 : (0 : Int) < p := by omega
          have hpne : ((p : Int) == 0) = false := by rw [beq_eq_false_iff_ne]; omega
          have HDs := Lib.hid hDs
          clear hd hp2 hpv hpm hq hzz
          go_wp2_with fail
          refine cV.out.mono ?_
          rintro e w12 ⟨rfl, hb12⟩
          have Hb12 := Hb11.trans (hb12.mono Hb11.size)
          clear Hb11 hb12
          go_wp2_with fail
          refine (c3.out w12 (Hz.out.keep Hb12)).mono ?_
          rintro e w13 ⟨rfl, hb13⟩
          have Hb13 := Hb12.trans (hb13.mono Hb12.size)
          clear Hb12 hb13
          go_wp2_with fail
          refine (c3.out w13 (Hz.out.keep Hb13)).mono ?_
          rintro e w14 ⟨rfl, hb14⟩
          have Hb14 := Hb13.trans (hb14.mono Hb13.size)
          clear Hb13 hb14
          go_wp2_with fail
          refine (implEV (z : Int) w14).mono ?_
          rintro e w15 ⟨rfl, hb15⟩
          have Hb15 := Hb14.trans (hb15.mono Hb14.size)
          clear Hb14 hb15
          go_wp2_with fail
          refine (c3.out w15 (Hz.out.keep Hb15)).mono ?_
          rintro e w16 ⟨rfl, hb16⟩
          have Hb16 := Hb15.trans (hb16.mono Hb15.size)
          clear Hb15 hb16
          go_wp2
          go_ret
          exact ⟨rfl, Hb16⟩
      · have hfx2 : 72057594037927936 ≤ N := by omega
        have cF := Lib.hid (fun ww => by
            have := implEF_yes m 7 (by have := HN.out; omega) (by omega) (by omega) ww
            rw [encF7_big m (by omega), ← hm] at this
            exact this : ∀ ww, Calls Tryd.prog 11 #[.int .i64 N, .int .i64 7] ww fun e w' => e = .returned (.string (str [])) ∧ Below ww.heap.size ww w')
        have cG := Lib.hid (fun ww => DFany T (by omega) ww)
        have hbs : (str ([] : List UInt8)).size = 0 := rfl
        have hbn : (str ([] : List UInt8)).toList = [] := by rw [Lib.toList_data, str_toList]
        have cP := Lib.hid (fun ww h55 => by
            have := implPI (str (Lib.itoa N)) (by rw [str_size]; have := Lib.itoa_length_le N HN.out.1 HN.out.2; omega) ww h55
            rw [str_toList, pI_itoa_big N HN.out.1 HN.out.2 (by omega)] at this
            exact this : ∀ ww, Laid5 ww → Calls Tryd.prog 13 #[.string (str (Lib.itoa N))] ww fun e w' => e = .returned (.tuple #[.int .i64 0, .bool false]) ∧ Below ww.heap.size ww w')
        have hd1 : 1000000000 ≤ N := by omega
        clear hI heV hm hfx
        go_enter Tryd.func3, Tryd.ntmps3
        go_wp2_with fail
        refine (big_any a zs.length cap hl _).mono ?_
        rintro e w0 ⟨rfl, rfl⟩
        go_wp2_with fail
        refine c1.out.mono ?_
        rintro e w1 ⟨rfl, hb1⟩
        go_wp2_with fail
        refine (c2.out w1 (Hz.out.keep hb1)).mono ?_
        rintro e w2 ⟨rfl, hb2⟩
        have Hb2 := hb1.trans (hb2.mono hb1.size)
        clear hb2 hb1
        go_wp2_with fail
        refine (implEV N w2).mono ?_
        rintro e w3 ⟨rfl, hb3⟩
        have Hb3 := Hb2.trans (hb3.mono Hb2.size)
        clear Hb2 hb3
        go_wp2_with fail
        refine (c4.out w3).mono ?_
        rintro e w4 ⟨rfl, hb4⟩
        have Hb4 := Hb3.trans (hb4.mono Hb3.size)
        clear Hb3 hb4
        go_wp2_with fail
        refine (cF.out w4).mono ?_
        rintro e w5 ⟨rfl, hb5⟩
        have Hb5 := Hb4.trans (hb5.mono Hb4.size)
        clear Hb4 hb5
        go_wp2_with fail
        refine (cG.out w5).mono ?_
        rintro e w6 ⟨y, b, rfl, rfl⟩
        go_wp2_with fail
        refine (implFI N HN.out.1 HN.out.2 w5 (laid5_below H5.out Hb5).tab).mono ?_
        rintro e w7 ⟨rfl, hb7⟩
        have Hb7 := Hb5.trans (hb7.mono Hb5.size)
        clear Hb5 hb7
        go_wp2_with fail
        refine (cP.out w7 (laid5_below H5.out Hb7)).mono ?_
        rintro e w8 ⟨rfl, hb8⟩
        have Hb8 := Hb7.trans (hb8.mono Hb7.size)
        clear Hb7 hb8
        go_wp2_with fail
        refine (hhex.out w8).mono ?_
        rintro e w9 ⟨rfl, hb9⟩
        have Hb9 := Hb8.trans (hb9.mono Hb8.size)
        clear Hb8 hb9
        go_wp2_with fail
        refine (hdh.out w9).mono ?_
        rintro e w10 ⟨rfl, hb10⟩
        have Hb10 := Hb9.trans (hb10.mono Hb9.size)
        clear Hb9 hb10
        go_wp2_with fail
        refine (c3.out w10 (Hz.out.keep Hb10)).mono ?_
        rintro e w11 ⟨rfl, hb11⟩
        have Hb11 := Hb10.trans (hb11.mono Hb10.size)
        clear Hb10 hb11
        rcases decV_ok D with hd | ⟨p, hp1, hp2, hpv, hpm, hd⟩
        · have cV := Lib.hid (implDV (str D) (by unfold maxLen; omega) w11)
          rw [str_toList, hd] at cV
          clear hd
          go_wp2_with fail
          refine cV.out.mono ?_
          rintro e w12 ⟨rfl, hb12⟩
          have Hb12 := Hb11.trans (hb12.mono Hb11.size)
          clear Hb11 hb12
          go_wp2
          go_ret
          exact ⟨rfl, Hb12⟩
        · have cV := Lib.hid (implDV (str D) (by unfold maxLen; omega) w11)
          rw [str_toList, hd] at cV
          have hpsz : p ≤ (str D).size := by rw [str_size]; exact hp2
          have hpsz' : (p : Int) ≤ ((str D).size : Int) := by omega
          have hq : (str (encV (numV (D.take p) : Nat))).toList == ((str D).extract 0 p).toList := by
            rw [encV_nat _ hpm, hpv, Lib.toList_data, Lib.toList_data, Lib.extract_data]; simp [str]
          have hE : ((str (encV (numV (D.take p) : Nat))).toList == ((str D).extract 0 p).toList) = true := hq
          generalize hzz : numV (D.take p) = z at cV hE
          have hp0 : (0 : Int) < p := by omega
          have hpne : ((p : Int) == 0) = false := by rw [beq_eq_false_iff_ne]; omega
          have HDs := Lib.hid hDs
          clear hd hp2 hpv hpm hq hzz
          go_wp2_with fail
          refine cV.out.mono ?_
          rintro e w12 ⟨rfl, hb12⟩
          have Hb12 := Hb11.trans (hb12.mono Hb11.size)
          clear Hb11 hb12
          go_wp2_with fail
          refine (c3.out w12 (Hz.out.keep Hb12)).mono ?_
          rintro e w13 ⟨rfl, hb13⟩
          have Hb13 := Hb12.trans (hb13.mono Hb12.size)
          clear Hb12 hb13
          go_wp2_with fail
          refine (c3.out w13 (Hz.out.keep Hb13)).mono ?_
          rintro e w14 ⟨rfl, hb14⟩
          have Hb14 := Hb13.trans (hb14.mono Hb13.size)
          clear Hb13 hb14
          go_wp2_with fail
          refine (implEV (z : Int) w14).mono ?_
          rintro e w15 ⟨rfl, hb15⟩
          have Hb15 := Hb14.trans (hb15.mono Hb14.size)
          clear Hb14 hb15
          go_wp2_with fail
          refine (c3.out w15 (Hz.out.keep Hb15)).mono ?_
          rintro e w16 ⟨rfl, hb16⟩
          have Hb16 := Hb15.trans (hb16.mono Hb15.size)
          clear Hb15 hb16
          go_wp2
          go_ret
          exact ⟨rfl, Hb16⟩
end Go.Proofs.YtdieggjnnlldeaaDoor

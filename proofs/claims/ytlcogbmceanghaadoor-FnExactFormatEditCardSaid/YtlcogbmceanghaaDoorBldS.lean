/- strings.Builder at this dump: WriteString's contract; a formatted row. -/
import Derived.Test.YtlcogbmceanghaaDoorBuild
import Derived.Test.YtlcogbmceanghaaDoorFmtT
open Go Go.Proofs Go.RowKit
namespace Go.Proofs.YtlcogbmceanghaaDoor
set_option linter.unusedVariables false
set_option maxRecDepth 100000
theorem byteCells_str (s : ByteArray) : Lib.strCells s = Lib.byteCells s.data.toList := by
  simp [Lib.strCells, Lib.byteCells]
set_option maxHeartbeats 1600000 in
/-- WriteString at a builder of the call's own. -/
theorem writeString_any (B b : Nat) (l : List UInt8) (s : ByteArray) (w : World) (h : Lib.IsBuilder 180 5 B b (Lib.byteCells l) w) (hlen : l.length + s.size ≤ 140737488355328) (hBw : B ≤ w.heap.size) :
    Calls Tryd.prog 136 #[.pointer (some ⟨b, 0, none⟩), .string s] w fun e w' => e = .returned (.tuple #[.int .i64 s.size, .nilIface]) ∧ Lib.IsBuilder 180 5 B b (Lib.byteCells (l ++ s.data.toList)) w' ∧ Below B w w' := by
  obtain ⟨i0, hi, hz0, hz1, hz2⟩ := info_parts Tryd.infoU8
  have hL : (Lib.byteCells l).length = l.length := Lib.byteCells_length l
  go_enter Tryd.func136, Tryd.ntmps136
  go_wp2_with (go_at_call 155; refine (copyCheck_any B b _ _ h).mono ?_)
  rintro e w1 ⟨rfl, hab, hb1⟩
  have hlt := hab.lt
  obtain ⟨hB, v, hbk, hown, hne⟩ := hab
  have d0 : w1.cell? ⟨b, 0, none⟩ = some (.pointer (some ⟨b, 0, none⟩)) := by rw [Lib.cell_of_heap hbk]; rfl
  have d1 : w1.cell? ⟨b, 1, none⟩ = some v := by rw [Lib.cell_of_heap hbk]; rfl
  go_wp2_with (at_builtin; refine Lib.wpList_append_own_string _ rfl _ _ 159 9 rfl B 5 i0 Tryd.underlying159 Tryd.underlying9 hi hz0 hz1 hz2 _ _ _ rfl hown s rfl ?c3 ?c4 ?c5 ?_)
  case c3 => unfold maxLen; omega
  case c4 => omega
  case c5 => have := hb1.size; omega
  intro v' w2 hown' hgrow _
  have hb2 : w2.heap[b]? = some (.cells #[.pointer (some ⟨b, 0, none⟩), v] 180 (0, 0)) := by
    rw [hgrow.block b hlt (fun q => hne q.symm)]; exact hbk
  have e0 : w2.cell? ⟨b, 0, none⟩ = some (.pointer (some ⟨b, 0, none⟩)) := by rw [Lib.cell_of_heap hb2]; rfl
  have e1 : w2.cell? ⟨b, 1, none⟩ = some v := by rw [Lib.cell_of_heap hb2]; rfl
  have f1 : w2.frozen? ⟨b, 1, none⟩ = false := Lib.frozen_of_heap hb2 1
  have hb3 : Below B w w2 := hb1.grown hgrow (by have := hb1.size; omega) (fun k hk => (World.ownsRow.lt hown k hk).1)
  have hown3 : w2.ownsRow B 5 1 v' (Lib.byteCells (l ++ s.data.toList)).length (Lib.byteCells (l ++ s.data.toList)) := by
    have e : Lib.byteCells (l ++ s.data.toList) = Lib.byteCells l ++ Lib.strCells s := by rw [byteCells_str]; simp [Lib.byteCells]
    rw [e, List.length_append, Lib.strCells_length]
    first | exact hown' | (rw [hL]; exact hown') | simpa using hown'
  have hput := Lib.BuilderAt.put (T := 180) (e := 5) hB hb2 hown3 (by decide)
  obtain ⟨ao, n', cap, rfl⟩ : ∃ ao n' cap, v' = .slice ao n' cap := by
    rcases hown'.2 with ⟨hv, _⟩ | ⟨g, cap, cur, hv, _⟩
    · exact ⟨_, _, _, hv⟩
    · exact ⟨_, _, _, hv⟩
  clear hown hown' hown3 hgrow hbk d0 d1
  have Hput := Lib.hid hput
  clear hput
  go_wp2
  go_ret2
  exact ⟨rfl, .inr Hput.out, hb3.setCell (p := ⟨b, 1, none⟩) hB _⟩
theorem isBuilder_below {T e : TypeId} {B b : Nat} {bs : List Value} {w w' : World} (h : Lib.IsBuilder T e B b bs w) (hb : Below w.heap.size w w') : Lib.IsBuilder T e B b bs w' := by
  have key : ∀ p, Lib.BuilderAt T e B b p bs w → Lib.BuilderAt T e B b p bs w' := fun p h => by
    have hlt := h.lt
    obtain ⟨hB, v, hbk, hown, hne⟩ := h
    refine ⟨hB, v, (hb.block b hlt).trans hbk, ⟨hown.1, hown.2.imp (fun z => z) ?_⟩, hne⟩
    rintro ⟨g, cap, cur, hv, hg, hh, rest⟩
    exact ⟨g, cap, cur, hv, hg, (hb.block g (Array.getElem?_eq_some_iff.1 hh).1).trans hh, rest⟩
  exact h.imp (key _) (key _)
/-- A row as text: the relation's name, its columns, a sign ahead of column k. -/
def rowTo (F : Int → ByteArray) (k : Int) (name : ByteArray) (l : List Int) : Nat → List UInt8
  | 0 => name.data.toList
  | i + 1 => rowTo F k name l i ++ (if (i : Int) = k then [124] else []) ++ (F (l.getD i 0)).data.toList
def rowB (F : Int → ByteArray) (r : Rel) (l : List Int) : ByteArray := str (rowTo F r.key r.name l l.length)
theorem rowTo_len {F : Int → ByteArray} {k : Int} {name : ByteArray} {l : List Int} (hF : ∀ x, x ∈ l → (F x).size ≤ 21) : ∀ i, i ≤ l.length → (rowTo F k name l i).length ≤ name.size + i * 22
  | 0, _ => Nat.le_of_eq (by rw [Nat.zero_mul]; rfl)
  | i + 1, hi => by
    have ih := rowTo_len (k := k) (name := name) hF i (by omega)
    have h1 : l.getD i 0 ∈ l := by rw [List.getD_eq_getElem?_getD, List.getElem?_eq_getElem (by omega)]; exact List.getElem_mem _
    have h2 := hF _ h1
    rw [rowTo, List.length_append, List.length_append]
    have h3 : (if (i : Int) = k then [124] else [] : List UInt8).length ≤ 1 := by split <;> simp
    have h4 : (F (l.getD i 0)).data.toList.length = (F (l.getD i 0)).size := rfl
    omega
set_option maxHeartbeats 3200000 in
theorem formatRow_c {g : FuncId} {F : Int → ByteArray} {r : Rel} {l : List Int} {a : Option Addr} {cap : Nat} {w : World} (hg : Ab.Glob w) (h : At (cSlice cInt) w l [.slice a l.length cap]) (hr : r.name.size ≤ 1048576) (hl : l.length ≤ 1048576) (hs : ∀ x, x ∈ l → (F x).size ≤ 21) (he : ∀ args ww, (callFunc g args).run Tryd.prog ww = .ok (.enter g args) ww)
    (hF : ∀ x, x ∈ l → ∀ ww, Ab.Glob ww → Calls Tryd.prog g #[.int .i64 x] ww fun e w' => e = .returned (.string (F x)) ∧ Below ww.heap.size ww w') :
    Calls Tryd.prog 106 #[.agg #[.string r.name, .int .i64 r.arity, .int .i64 r.key], .slice a l.length cap, .func (.func g) #[] #[]] w fun e w' => e = .returned (.string (rowB F r l)) ∧ Below w.heap.size w w' := by
  have hlen := rowTo_len (k := r.key) (name := r.name) hs
  have Hlen := Lib.hid hlen
  have Hr : Hid (∀ w' : World, Below w.heap.size w w' → ∀ j (hj : j < l.length), _) := fun w' hb j hj => ints_at (Cod.ok_below h hb) j hj
  have HF := Lib.hid hF
  have Hg := Lib.hid hg
  have hs' := hs
  clear h hF hg hlen hs
  go_enter Tryd.func106, Tryd.ntmps106
  have hsz : (w.alloc (.cells #[.string r.name, .int .i64 r.arity, .int .i64 r.key] 68)).heap.size = w.heap.size + 1 := by simp
  have hB1 : Below w.heap.size w (w.alloc (.cells #[.string r.name, .int .i64 r.arity, .int .i64 r.key] 68)) := by go_grown
  have p0 : (w.alloc (.cells #[.string r.name, .int .i64 r.arity, .int .i64 r.key] 68)).cell? ⟨w.heap.size, 0, none⟩ = some (.string r.name) := by go_simp
  have p2 : (w.alloc (.cells #[.string r.name, .int .i64 r.arity, .int .i64 r.key] 68)).cell? ⟨w.heap.size, 2, none⟩ = some (.int .i64 r.key) := by go_simp
  have hI0 := Lib.fresh_isBuilder 180 5 (w.alloc (.cells #[.string r.name, .int .i64 r.arity, .int .i64 r.key] 68))
  rw [hsz] at hI0
  go_wp2_with fail
  generalize hw1 : w.alloc (.cells #[.string r.name, .int .i64 r.arity, .int .i64 r.key] 68) = w1 at *
  clear hw1
  refine (writeString_any (w.heap.size + 1) (w.heap.size + 1) [] r.name _ hI0 (by simp; omega) (by simp; omega)).mono ?_
  rintro e w2 ⟨rfl, hI, hb2⟩
  rw [List.nil_append] at hI
  have hb2 : Below (w.heap.size + 1) w1 w2 := ((Below.refl _ _).alloc (by omega) _).trans hb2
  go_wp2
  go_loopw [15] (fun v wr => ∃ k : Nat, k ≤ l.length ∧ v = .int .i64 k ∧ Lib.IsBuilder 180 5 (w.heap.size + 1) (w.heap.size + 1) (Lib.byteCells (rowTo F r.key r.name l k)) wr ∧ Below (w.heap.size + 1) w1 wr) (fun v _ => l.length - (intOf v).toNat)
  case atStart => exact ⟨0, by omega, rfl, hI, hb2⟩
  case round =>
    obtain ⟨k, hk, rfl, hI, hb⟩ := hrel
    have hbw : Below w.heap.size w wr := hB1.trans (hb.mono (by omega))
    have p2' := (hb.cell (p := ⟨w.heap.size, 2, none⟩) (by simp)).trans p2
    by_cases hlt : k < l.length
    · obtain ⟨bb, off, rfl, hbB, hc⟩ := Hr.out _ hbw k hlt
      have hlen := Hlen.out k hk
      have hget : l.getD k 0 = l[k] := by rw [List.getD_eq_getElem?_getD, List.getElem?_eq_getElem hlt]; rfl
      have hFs := hs' _ (List.getElem_mem hlt)
      have HFk := Lib.hid (HF.out _ (List.getElem_mem hlt))
      have hwr : w.heap.size + 1 ≤ wr.heap.size := by have := hb.size; omega
      by_cases hkk : (k : Int) = r.key
      · have hst : rowTo F r.key r.name l (k + 1) = rowTo F r.key r.name l k ++ [124] ++ (F l[k]).data.toList := by rw [rowTo, if_pos hkk, hget]
        have hbe : ((k : Int) == r.key) = true := beq_iff_eq.2 hkk
        have Hst := Lib.hid hst
        clear hst hkk hget
        go_wp2_with fail
        refine (writeByte_any (w.heap.size + 1) (w.heap.size + 1) _ 124 _ rfl _ hI (by omega) hwr).mono ?_
        rintro e w2 ⟨rfl, hI2, hb2⟩
        have hw2 : w.heap.size + 1 ≤ w2.heap.size := by have := hb2.size; omega
        go_wp2_with fail
        refine (HFk.out _ (Hg.out.below (hbw.trans (hb2.mono (by omega))))).mono ?_
        rintro e w3 ⟨rfl, hb3⟩
        have hw3 : w.heap.size + 1 ≤ w3.heap.size := by have := hb3.size; omega
        have hI3 := isBuilder_below hI2 hb3
        go_wp2_with fail
        refine (writeString_any (w.heap.size + 1) (w.heap.size + 1) _ (F l[k]) _ hI3 (by rw [List.length_append, List.length_singleton]; omega) hw3).mono ?_
        rintro e w4 ⟨rfl, hI4, hb4⟩
        have hbb := ((hb.trans hb2).trans (hb3.mono hw2)).trans hb4
        clear hI hI2 hI3 hb2 hb3 hb4
        go_wp2
        go_roundw
        case rel => exact ⟨k + 1, by omega, by go_num, by rw [Hst.out]; exact hI4, hbb⟩
        case measure => simp [intOf]; omega
      · have hst : rowTo F r.key r.name l (k + 1) = rowTo F r.key r.name l k ++ (F l[k]).data.toList := by rw [rowTo, if_neg hkk, hget, List.append_nil]
        have hbe : ((k : Int) == r.key) = false := beq_eq_false_iff_ne.2 hkk
        have Hst := Lib.hid hst
        clear hst hkk hget
        go_wp2_with fail
        refine (HFk.out _ (Hg.out.below hbw)).mono ?_
        rintro e w3 ⟨rfl, hb3⟩
        have hw3 : w.heap.size + 1 ≤ w3.heap.size := by have := hb3.size; omega
        have hI3 := isBuilder_below hI hb3
        go_wp2_with fail
        refine (writeString_any (w.heap.size + 1) (w.heap.size + 1) _ (F l[k]) _ hI3 (by omega) hw3).mono ?_
        rintro e w4 ⟨rfl, hI4, hb4⟩
        have hbb := (hb.trans (hb3.mono hwr)).trans hb4
        clear hI hI3 hb3 hb4
        go_wp2
        go_roundw
        case rel => exact ⟨k + 1, by omega, by go_num, by rw [Hst.out]; exact hI4, hbb⟩
        case measure => simp [intOf]; omega
    · obtain rfl : k = l.length := by omega
      go_wp2_with fail
      refine (Tryd.Builder_String_any _ _ _ _ hI (by have := hb.size; omega)).mono ?_
      rintro e w3 ⟨rfl, hb3⟩
      clear hI
      go_wp2
      go_ret
      exact ⟨rfl, hbw.trans (hb3.mono (by omega))⟩
end Go.Proofs.YtlcogbmceanghaaDoor


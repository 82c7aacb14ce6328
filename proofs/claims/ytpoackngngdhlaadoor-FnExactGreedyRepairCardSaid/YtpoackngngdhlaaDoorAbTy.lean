/- What the reckoning asks of the types. Written by gen/abty.py. -/
import Derived.Test.YtpoackngngdhlaaDoorAbTwo
import Derived.Test.YtpoackngngdhlaaDoorProg
open Go Go.Proofs Go.RowKit
namespace Go.Proofs.YtpoackngngdhlaaDoor.Ab
set_option maxRecDepth 100000

theorem ty_kind_int : kindOf Tryd.prog 3 = some none := by kernel_rfl
theorem ty_size_int : sizeIn Tryd.prog 3 = some 1 := by kernel_rfl
theorem ty_zero_int : zeroCells? Tryd.prog 3 = some [.d (.v (.int .i64 0))] := by kernel_rfl
theorem ty_kind_bool : kindOf Tryd.prog 4 = some none := by kernel_rfl
theorem ty_size_bool : sizeIn Tryd.prog 4 = some 1 := by kernel_rfl
theorem ty_zero_bool : zeroCells? Tryd.prog 4 = some [.d (.v (.bool false))] := by kernel_rfl
theorem ty_kind_string : kindOf Tryd.prog 9 = some none := by kernel_rfl
theorem ty_size_string : sizeIn Tryd.prog 9 = some 1 := by kernel_rfl
theorem ty_zero_string : zeroCells? Tryd.prog 9 = some [.d (.v (.string ⟨#[]⟩))] := by kernel_rfl
theorem ty_kind_bitSet : kindOf Tryd.prog 52 = some none := by kernel_rfl
theorem ty_size_bitSet : sizeIn Tryd.prog 52 = some 1 := by kernel_rfl
theorem ty_zero_bitSet : zeroCells? Tryd.prog 52 = some [.d (.v (.int .u64 0))] := by kernel_rfl
theorem ty_kind_uint8 : kindOf Tryd.prog 5 = some none := by kernel_rfl
theorem ty_size_uint8 : sizeIn Tryd.prog 5 = some 1 := by kernel_rfl
theorem ty_zero_uint8 : zeroCells? Tryd.prog 5 = some [.d (.v (.int .u8 0))] := by kernel_rfl
theorem ty_kind_Lint : kindOf Tryd.prog 23 = some none := by kernel_rfl
theorem ty_size_Lint : sizeIn Tryd.prog 23 = some 1 := by kernel_rfl
theorem ty_zero_Lint : zeroCells? Tryd.prog 23 = some [.d (.v (.slice none 0 0))] := by kernel_rfl
theorem ty_und_Lint : Tryd.prog.underlying 23 = some (.slice 3) := by kernel_rfl
theorem ty_el_Lint : elOf Tryd.prog 23 = some (3, 1, 8) := by kernel_rfl
theorem ty_kind_Lbool : kindOf Tryd.prog 64 = some none := by kernel_rfl
theorem ty_size_Lbool : sizeIn Tryd.prog 64 = some 1 := by kernel_rfl
theorem ty_zero_Lbool : zeroCells? Tryd.prog 64 = some [.d (.v (.slice none 0 0))] := by kernel_rfl
theorem ty_und_Lbool : Tryd.prog.underlying 64 = some (.slice 4) := by kernel_rfl
theorem ty_el_Lbool : elOf Tryd.prog 64 = some (4, 1, 1) := by kernel_rfl
theorem ty_kind_LConflictEdge : kindOf Tryd.prog 26 = some none := by kernel_rfl
theorem ty_size_LConflictEdge : sizeIn Tryd.prog 26 = some 1 := by kernel_rfl
theorem ty_zero_LConflictEdge : zeroCells? Tryd.prog 26 = some [.d (.v (.slice none 0 0))] := by kernel_rfl
theorem ty_und_LConflictEdge : Tryd.prog.underlying 26 = some (.slice 41) := by kernel_rfl
theorem ty_el_LConflictEdge : elOf Tryd.prog 26 = some (41, 2, 16) := by kernel_rfl
theorem ty_kind_LbitSet : kindOf Tryd.prog 44 = some none := by kernel_rfl
theorem ty_size_LbitSet : sizeIn Tryd.prog 44 = some 1 := by kernel_rfl
theorem ty_zero_LbitSet : zeroCells? Tryd.prog 44 = some [.d (.v (.slice none 0 0))] := by kernel_rfl
theorem ty_und_LbitSet : Tryd.prog.underlying 44 = some (.slice 52) := by kernel_rfl
theorem ty_el_LbitSet : elOf Tryd.prog 44 = some (52, 1, 8) := by kernel_rfl
theorem ty_kind_conflictGraph : kindOf Tryd.prog 45 = some none := by kernel_rfl
theorem ty_size_conflictGraph : sizeIn Tryd.prog 45 = some 1 := by kernel_rfl
theorem ty_zero_conflictGraph : zeroCells? Tryd.prog 45 = some [.d (.v (.slice none 0 0))] := by kernel_rfl
theorem ty_und_conflictGraph : Tryd.prog.underlying 45 = some (.slice 52) := by kernel_rfl
theorem ty_el_conflictGraph : elOf Tryd.prog 45 = some (52, 1, 8) := by kernel_rfl
theorem ty_kind_ConflictEdge : kindOf Tryd.prog 41 = some (some 2) := by kernel_rfl
theorem ty_size_ConflictEdge : sizeIn Tryd.prog 41 = some 2 := by kernel_rfl
theorem ty_zero_ConflictEdge : zeroCells? Tryd.prog 41 = some [.d (.v (.int .i64 0)), .d (.v (.int .i64 0))] := by kernel_rfl
theorem ty_off_ConflictEdge_0 : fieldOff Tryd.prog 41 0 = some 0 := by kernel_rfl
theorem ty_off_ConflictEdge_1 : fieldOff Tryd.prog 41 1 = some 1 := by kernel_rfl
theorem ty_pl_ConflictEdge : structPl Tryd.prog 41 = some [(0, 1), (1, 1)] := by kernel_rfl
theorem ty_kind_preferenceGraph : kindOf Tryd.prog 47 = some (some 2) := by kernel_rfl
theorem ty_size_preferenceGraph : sizeIn Tryd.prog 47 = some 2 := by kernel_rfl
theorem ty_zero_preferenceGraph : zeroCells? Tryd.prog 47 = some [.d (.v (.slice none 0 0)), .d (.v (.slice none 0 0))] := by kernel_rfl
theorem ty_off_preferenceGraph_0 : fieldOff Tryd.prog 47 0 = some 0 := by kernel_rfl
theorem ty_off_preferenceGraph_1 : fieldOff Tryd.prog 47 1 = some 1 := by kernel_rfl
theorem ty_pl_preferenceGraph : structPl Tryd.prog 47 = some [(0, 1), (1, 1)] := by kernel_rfl
theorem ty_und_string : Tryd.prog.underlying 9 = some (.string) := by kernel_rfl
theorem ty_und_int : Tryd.prog.underlying 3 = some (.int .i64) := by kernel_rfl
theorem ty_und_uint8 : Tryd.prog.underlying 5 = some (.int .u8) := by kernel_rfl
theorem ty_und_int32 : Tryd.prog.underlying 21 = some (.int .i32) := by kernel_rfl
theorem ty_mix : Tryd.prog.follows .mixedOrders = true := by kernel_rfl
theorem tyL : ((((((kindOf Tryd.prog 3 = some none) ∧ ((sizeIn Tryd.prog 3 = some 1) ∧ (zeroCells? Tryd.prog 3 = some [.d (.v (.int .i64 0))]))) ∧ (((kindOf Tryd.prog 4 = some none) ∧ (sizeIn Tryd.prog 4 = some 1)) ∧ ((zeroCells? Tryd.prog 4 = some [.d (.v (.bool false))]) ∧ (kindOf Tryd.prog 9 = some none)))) ∧ (((sizeIn Tryd.prog 9 = some 1) ∧ ((zeroCells? Tryd.prog 9 = some [.d (.v (.string ⟨#[]⟩))]) ∧ (kindOf Tryd.prog 52 = some none))) ∧ (((sizeIn Tryd.prog 52 = some 1) ∧ (zeroCells? Tryd.prog 52 = some [.d (.v (.int .u64 0))])) ∧ ((kindOf Tryd.prog 5 = some none) ∧ (sizeIn Tryd.prog 5 = some 1))))) ∧ ((((zeroCells? Tryd.prog 5 = some [.d (.v (.int .u8 0))]) ∧ ((kindOf Tryd.prog 23 = some none) ∧ (sizeIn Tryd.prog 23 = some 1))) ∧ (((zeroCells? Tryd.prog 23 = some [.d (.v (.slice none 0 0))]) ∧ (Tryd.prog.underlying 23 = some (.slice 3))) ∧ ((elOf Tryd.prog 23 = some (3, 1, 8)) ∧ (kindOf Tryd.prog 64 = some none)))) ∧ (((sizeIn Tryd.prog 64 = some 1) ∧ ((zeroCells? Tryd.prog 64 = some [.d (.v (.slice none 0 0))]) ∧ (Tryd.prog.underlying 64 = some (.slice 4)))) ∧ (((elOf Tryd.prog 64 = some (4, 1, 1)) ∧ (kindOf Tryd.prog 26 = some none)) ∧ ((sizeIn Tryd.prog 26 = some 1) ∧ (zeroCells? Tryd.prog 26 = some [.d (.v (.slice none 0 0))])))))) ∧ (((((Tryd.prog.underlying 26 = some (.slice 41)) ∧ ((elOf Tryd.prog 26 = some (41, 2, 16)) ∧ (kindOf Tryd.prog 44 = some none))) ∧ (((sizeIn Tryd.prog 44 = some 1) ∧ (zeroCells? Tryd.prog 44 = some [.d (.v (.slice none 0 0))])) ∧ ((Tryd.prog.underlying 44 = some (.slice 52)) ∧ (elOf Tryd.prog 44 = some (52, 1, 8))))) ∧ (((kindOf Tryd.prog 45 = some none) ∧ ((sizeIn Tryd.prog 45 = some 1) ∧ (zeroCells? Tryd.prog 45 = some [.d (.v (.slice none 0 0))]))) ∧ (((Tryd.prog.underlying 45 = some (.slice 52)) ∧ (elOf Tryd.prog 45 = some (52, 1, 8))) ∧ ((kindOf Tryd.prog 41 = some (some 2)) ∧ (sizeIn Tryd.prog 41 = some 2))))) ∧ ((((zeroCells? Tryd.prog 41 = some [.d (.v (.int .i64 0)), .d (.v (.int .i64 0))]) ∧ ((fieldOff Tryd.prog 41 0 = some 0) ∧ (fieldOff Tryd.prog 41 1 = some 1))) ∧ (((structPl Tryd.prog 41 = some [(0, 1), (1, 1)]) ∧ (kindOf Tryd.prog 47 = some (some 2))) ∧ ((sizeIn Tryd.prog 47 = some 2) ∧ (zeroCells? Tryd.prog 47 = some [.d (.v (.slice none 0 0)), .d (.v (.slice none 0 0))])))) ∧ (((fieldOff Tryd.prog 47 0 = some 0) ∧ ((fieldOff Tryd.prog 47 1 = some 1) ∧ (structPl Tryd.prog 47 = some [(0, 1), (1, 1)]))) ∧ (((Tryd.prog.underlying 9 = some (.string)) ∧ (Tryd.prog.underlying 3 = some (.int .i64))) ∧ ((Tryd.prog.underlying 5 = some (.int .u8)) ∧ (Tryd.prog.underlying 21 = some (.int .i32)))))))) :=
  ⟨⟨⟨⟨⟨ty_kind_int, ⟨ty_size_int, ty_zero_int⟩⟩, ⟨⟨ty_kind_bool, ty_size_bool⟩, ⟨ty_zero_bool, ty_kind_string⟩⟩⟩, ⟨⟨ty_size_string, ⟨ty_zero_string, ty_kind_bitSet⟩⟩, ⟨⟨ty_size_bitSet, ty_zero_bitSet⟩, ⟨ty_kind_uint8, ty_size_uint8⟩⟩⟩⟩, ⟨⟨⟨ty_zero_uint8, ⟨ty_kind_Lint, ty_size_Lint⟩⟩, ⟨⟨ty_zero_Lint, ty_und_Lint⟩, ⟨ty_el_Lint, ty_kind_Lbool⟩⟩⟩, ⟨⟨ty_size_Lbool, ⟨ty_zero_Lbool, ty_und_Lbool⟩⟩, ⟨⟨ty_el_Lbool, ty_kind_LConflictEdge⟩, ⟨ty_size_LConflictEdge, ty_zero_LConflictEdge⟩⟩⟩⟩⟩, ⟨⟨⟨⟨ty_und_LConflictEdge, ⟨ty_el_LConflictEdge, ty_kind_LbitSet⟩⟩, ⟨⟨ty_size_LbitSet, ty_zero_LbitSet⟩, ⟨ty_und_LbitSet, ty_el_LbitSet⟩⟩⟩, ⟨⟨ty_kind_conflictGraph, ⟨ty_size_conflictGraph, ty_zero_conflictGraph⟩⟩, ⟨⟨ty_und_conflictGraph, ty_el_conflictGraph⟩, ⟨ty_kind_ConflictEdge, ty_size_ConflictEdge⟩⟩⟩⟩, ⟨⟨⟨ty_zero_ConflictEdge, ⟨ty_off_ConflictEdge_0, ty_off_ConflictEdge_1⟩⟩, ⟨⟨ty_pl_ConflictEdge, ty_kind_preferenceGraph⟩, ⟨ty_size_preferenceGraph, ty_zero_preferenceGraph⟩⟩⟩, ⟨⟨ty_off_preferenceGraph_0, ⟨ty_off_preferenceGraph_1, ty_pl_preferenceGraph⟩⟩, ⟨⟨ty_und_string, ty_und_int⟩, ⟨ty_und_uint8, ty_und_int32⟩⟩⟩⟩⟩⟩
end Go.Proofs.YtpoackngngdhlaaDoor.Ab


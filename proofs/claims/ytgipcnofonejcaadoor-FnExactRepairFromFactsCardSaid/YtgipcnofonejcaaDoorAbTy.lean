/- What the reckoning asks of the types. Written by gen/abty.py. -/
import Derived.Test.YtgipcnofonejcaaDoorAbTwo
import Derived.Test.YtgipcnofonejcaaDoorProg
open Go Go.Proofs Go.RowKit
namespace Go.Proofs.YtgipcnofonejcaaDoor.Ab
set_option maxRecDepth 100000

theorem ty_kind_int : kindOf Tryd.prog 3 = some none := by kernel_rfl
theorem ty_size_int : sizeIn Tryd.prog 3 = some 1 := by kernel_rfl
theorem ty_zero_int : zeroCells? Tryd.prog 3 = some [.d (.v (.int .i64 0))] := by kernel_rfl
theorem ty_kind_bool : kindOf Tryd.prog 4 = some none := by kernel_rfl
theorem ty_size_bool : sizeIn Tryd.prog 4 = some 1 := by kernel_rfl
theorem ty_zero_bool : zeroCells? Tryd.prog 4 = some [.d (.v (.bool false))] := by kernel_rfl
theorem ty_kind_string : kindOf Tryd.prog 9 = some none := by kernel_rfl
theorem ty_size_string : sizeIn Tryd.prog 9 = some 1 := by kernel_rfl
theorem ty_zero_string : zeroCells? Tryd.prog 9 = some [.d (.v (.string ⟨#[]⟩))] := by kernel_rfl
theorem ty_kind_bitSet : kindOf Tryd.prog 81 = some none := by kernel_rfl
theorem ty_size_bitSet : sizeIn Tryd.prog 81 = some 1 := by kernel_rfl
theorem ty_zero_bitSet : zeroCells? Tryd.prog 81 = some [.d (.v (.int .u64 0))] := by kernel_rfl
theorem ty_kind_uint8 : kindOf Tryd.prog 5 = some none := by kernel_rfl
theorem ty_size_uint8 : sizeIn Tryd.prog 5 = some 1 := by kernel_rfl
theorem ty_zero_uint8 : zeroCells? Tryd.prog 5 = some [.d (.v (.int .u8 0))] := by kernel_rfl
theorem ty_kind_Lint : kindOf Tryd.prog 46 = some none := by kernel_rfl
theorem ty_size_Lint : sizeIn Tryd.prog 46 = some 1 := by kernel_rfl
theorem ty_zero_Lint : zeroCells? Tryd.prog 46 = some [.d (.v (.slice none 0 0))] := by kernel_rfl
theorem ty_und_Lint : Tryd.prog.underlying 46 = some (.slice 3) := by kernel_rfl
theorem ty_el_Lint : elOf Tryd.prog 46 = some (3, 1, 8) := by kernel_rfl
theorem ty_kind_LLint : kindOf Tryd.prog 29 = some none := by kernel_rfl
theorem ty_size_LLint : sizeIn Tryd.prog 29 = some 1 := by kernel_rfl
theorem ty_zero_LLint : zeroCells? Tryd.prog 29 = some [.d (.v (.slice none 0 0))] := by kernel_rfl
theorem ty_und_LLint : Tryd.prog.underlying 29 = some (.slice 46) := by kernel_rfl
theorem ty_el_LLint : elOf Tryd.prog 29 = some (46, 1, 24) := by kernel_rfl
theorem ty_kind_Lbool : kindOf Tryd.prog 158 = some none := by kernel_rfl
theorem ty_size_Lbool : sizeIn Tryd.prog 158 = some 1 := by kernel_rfl
theorem ty_zero_Lbool : zeroCells? Tryd.prog 158 = some [.d (.v (.slice none 0 0))] := by kernel_rfl
theorem ty_und_Lbool : Tryd.prog.underlying 158 = some (.slice 4) := by kernel_rfl
theorem ty_el_Lbool : elOf Tryd.prog 158 = some (4, 1, 1) := by kernel_rfl
theorem ty_kind_Luint8 : kindOf Tryd.prog 153 = some none := by kernel_rfl
theorem ty_size_Luint8 : sizeIn Tryd.prog 153 = some 1 := by kernel_rfl
theorem ty_zero_Luint8 : zeroCells? Tryd.prog 153 = some [.d (.v (.slice none 0 0))] := by kernel_rfl
theorem ty_und_Luint8 : Tryd.prog.underlying 153 = some (.slice 5) := by kernel_rfl
theorem ty_el_Luint8 : elOf Tryd.prog 153 = some (5, 1, 1) := by kernel_rfl
theorem ty_kind_LRelation : kindOf Tryd.prog 31 = some none := by kernel_rfl
theorem ty_size_LRelation : sizeIn Tryd.prog 31 = some 1 := by kernel_rfl
theorem ty_zero_LRelation : zeroCells? Tryd.prog 31 = some [.d (.v (.slice none 0 0))] := by kernel_rfl
theorem ty_und_LRelation : Tryd.prog.underlying 31 = some (.slice 109) := by kernel_rfl
theorem ty_el_LRelation : elOf Tryd.prog 31 = some (109, 3, 32) := by kernel_rfl
theorem ty_kind_LFact : kindOf Tryd.prog 32 = some none := by kernel_rfl
theorem ty_size_LFact : sizeIn Tryd.prog 32 = some 1 := by kernel_rfl
theorem ty_zero_LFact : zeroCells? Tryd.prog 32 = some [.d (.v (.slice none 0 0))] := by kernel_rfl
theorem ty_und_LFact : Tryd.prog.underlying 32 = some (.slice 102) := by kernel_rfl
theorem ty_el_LFact : elOf Tryd.prog 32 = some (102, 2, 32) := by kernel_rfl
theorem ty_kind_LConflictEdge : kindOf Tryd.prog 56 = some none := by kernel_rfl
theorem ty_size_LConflictEdge : sizeIn Tryd.prog 56 = some 1 := by kernel_rfl
theorem ty_zero_LConflictEdge : zeroCells? Tryd.prog 56 = some [.d (.v (.slice none 0 0))] := by kernel_rfl
theorem ty_und_LConflictEdge : Tryd.prog.underlying 56 = some (.slice 89) := by kernel_rfl
theorem ty_el_LConflictEdge : elOf Tryd.prog 56 = some (89, 2, 16) := by kernel_rfl
theorem ty_kind_LDenialConstraint : kindOf Tryd.prog 36 = some none := by kernel_rfl
theorem ty_size_LDenialConstraint : sizeIn Tryd.prog 36 = some 1 := by kernel_rfl
theorem ty_zero_LDenialConstraint : zeroCells? Tryd.prog 36 = some [.d (.v (.slice none 0 0))] := by kernel_rfl
theorem ty_und_LDenialConstraint : Tryd.prog.underlying 36 = some (.slice 69) := by kernel_rfl
theorem ty_el_LDenialConstraint : elOf Tryd.prog 36 = some (69, 7, 56) := by kernel_rfl
theorem ty_kind_LbitSet : kindOf Tryd.prog 83 = some none := by kernel_rfl
theorem ty_size_LbitSet : sizeIn Tryd.prog 83 = some 1 := by kernel_rfl
theorem ty_zero_LbitSet : zeroCells? Tryd.prog 83 = some [.d (.v (.slice none 0 0))] := by kernel_rfl
theorem ty_und_LbitSet : Tryd.prog.underlying 83 = some (.slice 81) := by kernel_rfl
theorem ty_el_LbitSet : elOf Tryd.prog 83 = some (81, 1, 8) := by kernel_rfl
theorem ty_kind_conflictGraph : kindOf Tryd.prog 113 = some none := by kernel_rfl
theorem ty_size_conflictGraph : sizeIn Tryd.prog 113 = some 1 := by kernel_rfl
theorem ty_zero_conflictGraph : zeroCells? Tryd.prog 113 = some [.d (.v (.slice none 0 0))] := by kernel_rfl
theorem ty_und_conflictGraph : Tryd.prog.underlying 113 = some (.slice 81) := by kernel_rfl
theorem ty_el_conflictGraph : elOf Tryd.prog 113 = some (81, 1, 8) := by kernel_rfl
theorem ty_kind_Relation : kindOf Tryd.prog 109 = some (some 3) := by kernel_rfl
theorem ty_size_Relation : sizeIn Tryd.prog 109 = some 3 := by kernel_rfl
theorem ty_zero_Relation : zeroCells? Tryd.prog 109 = some [.d (.v (.string ⟨#[]⟩)), .d (.v (.int .i64 0)), .d (.v (.int .i64 0))] := by kernel_rfl
theorem ty_off_Relation_0 : fieldOff Tryd.prog 109 0 = some 0 := by kernel_rfl
theorem ty_off_Relation_1 : fieldOff Tryd.prog 109 1 = some 1 := by kernel_rfl
theorem ty_off_Relation_2 : fieldOff Tryd.prog 109 2 = some 2 := by kernel_rfl
theorem ty_pl_Relation : structPl Tryd.prog 109 = some [(0, 1), (1, 1), (2, 1)] := by kernel_rfl
theorem ty_kind_Fact : kindOf Tryd.prog 102 = some (some 2) := by kernel_rfl
theorem ty_size_Fact : sizeIn Tryd.prog 102 = some 2 := by kernel_rfl
theorem ty_zero_Fact : zeroCells? Tryd.prog 102 = some [.d (.v (.int .i64 0)), .d (.v (.slice none 0 0))] := by kernel_rfl
theorem ty_off_Fact_0 : fieldOff Tryd.prog 102 0 = some 0 := by kernel_rfl
theorem ty_off_Fact_1 : fieldOff Tryd.prog 102 1 = some 1 := by kernel_rfl
theorem ty_pl_Fact : structPl Tryd.prog 102 = some [(0, 1), (1, 1)] := by kernel_rfl
theorem ty_kind_Database : kindOf Tryd.prog 34 = some (some 2) := by kernel_rfl
theorem ty_size_Database : sizeIn Tryd.prog 34 = some 2 := by kernel_rfl
theorem ty_zero_Database : zeroCells? Tryd.prog 34 = some [.d (.v (.slice none 0 0)), .d (.v (.slice none 0 0))] := by kernel_rfl
theorem ty_off_Database_0 : fieldOff Tryd.prog 34 0 = some 0 := by kernel_rfl
theorem ty_off_Database_1 : fieldOff Tryd.prog 34 1 = some 1 := by kernel_rfl
theorem ty_pl_Database : structPl Tryd.prog 34 = some [(0, 1), (1, 1)] := by kernel_rfl
theorem ty_kind_ConflictEdge : kindOf Tryd.prog 89 = some (some 2) := by kernel_rfl
theorem ty_size_ConflictEdge : sizeIn Tryd.prog 89 = some 2 := by kernel_rfl
theorem ty_zero_ConflictEdge : zeroCells? Tryd.prog 89 = some [.d (.v (.int .i64 0)), .d (.v (.int .i64 0))] := by kernel_rfl
theorem ty_off_ConflictEdge_0 : fieldOff Tryd.prog 89 0 = some 0 := by kernel_rfl
theorem ty_off_ConflictEdge_1 : fieldOff Tryd.prog 89 1 = some 1 := by kernel_rfl
theorem ty_pl_ConflictEdge : structPl Tryd.prog 89 = some [(0, 1), (1, 1)] := by kernel_rfl
theorem ty_kind_DenialConstraint : kindOf Tryd.prog 69 = some (some 7) := by kernel_rfl
theorem ty_size_DenialConstraint : sizeIn Tryd.prog 69 = some 7 := by kernel_rfl
theorem ty_zero_DenialConstraint : zeroCells? Tryd.prog 69 = some [.d (.v (.int .i64 0)), .d (.v (.int .i64 0)), .d (.v (.int .i64 0)), .d (.v (.int .i64 0)), .d (.v (.int .i64 0)), .d (.v (.int .i64 0)), .d (.v (.int .i64 0))] := by kernel_rfl
theorem ty_off_DenialConstraint_0 : fieldOff Tryd.prog 69 0 = some 0 := by kernel_rfl
theorem ty_off_DenialConstraint_1 : fieldOff Tryd.prog 69 1 = some 1 := by kernel_rfl
theorem ty_off_DenialConstraint_2 : fieldOff Tryd.prog 69 2 = some 2 := by kernel_rfl
theorem ty_off_DenialConstraint_3 : fieldOff Tryd.prog 69 3 = some 3 := by kernel_rfl
theorem ty_off_DenialConstraint_4 : fieldOff Tryd.prog 69 4 = some 4 := by kernel_rfl
theorem ty_off_DenialConstraint_5 : fieldOff Tryd.prog 69 5 = some 5 := by kernel_rfl
theorem ty_off_DenialConstraint_6 : fieldOff Tryd.prog 69 6 = some 6 := by kernel_rfl
theorem ty_pl_DenialConstraint : structPl Tryd.prog 69 = some [(0, 1), (1, 1), (2, 1), (3, 1), (4, 1), (5, 1), (6, 1)] := by kernel_rfl
theorem ty_kind_preferenceGraph : kindOf Tryd.prog 138 = some (some 2) := by kernel_rfl
theorem ty_size_preferenceGraph : sizeIn Tryd.prog 138 = some 2 := by kernel_rfl
theorem ty_zero_preferenceGraph : zeroCells? Tryd.prog 138 = some [.d (.v (.slice none 0 0)), .d (.v (.slice none 0 0))] := by kernel_rfl
theorem ty_off_preferenceGraph_0 : fieldOff Tryd.prog 138 0 = some 0 := by kernel_rfl
theorem ty_off_preferenceGraph_1 : fieldOff Tryd.prog 138 1 = some 1 := by kernel_rfl
theorem ty_pl_preferenceGraph : structPl Tryd.prog 138 = some [(0, 1), (1, 1)] := by kernel_rfl
theorem ty_und_string : Tryd.prog.underlying 9 = some (.string) := by kernel_rfl
theorem ty_und_int : Tryd.prog.underlying 3 = some (.int .i64) := by kernel_rfl
theorem ty_und_uint8 : Tryd.prog.underlying 5 = some (.int .u8) := by kernel_rfl
theorem ty_und_int32 : Tryd.prog.underlying 21 = some (.int .i32) := by kernel_rfl
theorem ty_mix : Tryd.prog.follows .mixedOrders = true := by kernel_rfl
theorem tyL : (((((((kindOf Tryd.prog 3 = some none) ∧ ((sizeIn Tryd.prog 3 = some 1) ∧ (zeroCells? Tryd.prog 3 = some [.d (.v (.int .i64 0))]))) ∧ ((kindOf Tryd.prog 4 = some none) ∧ ((sizeIn Tryd.prog 4 = some 1) ∧ (zeroCells? Tryd.prog 4 = some [.d (.v (.bool false))])))) ∧ (((kindOf Tryd.prog 9 = some none) ∧ ((sizeIn Tryd.prog 9 = some 1) ∧ (zeroCells? Tryd.prog 9 = some [.d (.v (.string ⟨#[]⟩))]))) ∧ (((kindOf Tryd.prog 81 = some none) ∧ (sizeIn Tryd.prog 81 = some 1)) ∧ ((zeroCells? Tryd.prog 81 = some [.d (.v (.int .u64 0))]) ∧ (kindOf Tryd.prog 5 = some none))))) ∧ ((((sizeIn Tryd.prog 5 = some 1) ∧ ((zeroCells? Tryd.prog 5 = some [.d (.v (.int .u8 0))]) ∧ (kindOf Tryd.prog 46 = some none))) ∧ (((sizeIn Tryd.prog 46 = some 1) ∧ (zeroCells? Tryd.prog 46 = some [.d (.v (.slice none 0 0))])) ∧ ((Tryd.prog.underlying 46 = some (.slice 3)) ∧ (elOf Tryd.prog 46 = some (3, 1, 8))))) ∧ (((kindOf Tryd.prog 29 = some none) ∧ ((sizeIn Tryd.prog 29 = some 1) ∧ (zeroCells? Tryd.prog 29 = some [.d (.v (.slice none 0 0))]))) ∧ (((Tryd.prog.underlying 29 = some (.slice 46)) ∧ (elOf Tryd.prog 29 = some (46, 1, 24))) ∧ ((kindOf Tryd.prog 158 = some none) ∧ (sizeIn Tryd.prog 158 = some 1)))))) ∧ (((((zeroCells? Tryd.prog 158 = some [.d (.v (.slice none 0 0))]) ∧ ((Tryd.prog.underlying 158 = some (.slice 4)) ∧ (elOf Tryd.prog 158 = some (4, 1, 1)))) ∧ (((kindOf Tryd.prog 153 = some none) ∧ (sizeIn Tryd.prog 153 = some 1)) ∧ ((zeroCells? Tryd.prog 153 = some [.d (.v (.slice none 0 0))]) ∧ (Tryd.prog.underlying 153 = some (.slice 5))))) ∧ (((elOf Tryd.prog 153 = some (5, 1, 1)) ∧ ((kindOf Tryd.prog 31 = some none) ∧ (sizeIn Tryd.prog 31 = some 1))) ∧ (((zeroCells? Tryd.prog 31 = some [.d (.v (.slice none 0 0))]) ∧ (Tryd.prog.underlying 31 = some (.slice 109))) ∧ ((elOf Tryd.prog 31 = some (109, 3, 32)) ∧ (kindOf Tryd.prog 32 = some none))))) ∧ ((((sizeIn Tryd.prog 32 = some 1) ∧ ((zeroCells? Tryd.prog 32 = some [.d (.v (.slice none 0 0))]) ∧ (Tryd.prog.underlying 32 = some (.slice 102)))) ∧ (((elOf Tryd.prog 32 = some (102, 2, 32)) ∧ (kindOf Tryd.prog 56 = some none)) ∧ ((sizeIn Tryd.prog 56 = some 1) ∧ (zeroCells? Tryd.prog 56 = some [.d (.v (.slice none 0 0))])))) ∧ (((Tryd.prog.underlying 56 = some (.slice 89)) ∧ ((elOf Tryd.prog 56 = some (89, 2, 16)) ∧ (kindOf Tryd.prog 36 = some none))) ∧ (((sizeIn Tryd.prog 36 = some 1) ∧ (zeroCells? Tryd.prog 36 = some [.d (.v (.slice none 0 0))])) ∧ ((Tryd.prog.underlying 36 = some (.slice 69)) ∧ (elOf Tryd.prog 36 = some (69, 7, 56)))))))) ∧ ((((((kindOf Tryd.prog 83 = some none) ∧ ((sizeIn Tryd.prog 83 = some 1) ∧ (zeroCells? Tryd.prog 83 = some [.d (.v (.slice none 0 0))]))) ∧ (((Tryd.prog.underlying 83 = some (.slice 81)) ∧ (elOf Tryd.prog 83 = some (81, 1, 8))) ∧ ((kindOf Tryd.prog 113 = some none) ∧ (sizeIn Tryd.prog 113 = some 1)))) ∧ (((zeroCells? Tryd.prog 113 = some [.d (.v (.slice none 0 0))]) ∧ ((Tryd.prog.underlying 113 = some (.slice 81)) ∧ (elOf Tryd.prog 113 = some (81, 1, 8)))) ∧ (((kindOf Tryd.prog 109 = some (some 3)) ∧ (sizeIn Tryd.prog 109 = some 3)) ∧ ((zeroCells? Tryd.prog 109 = some [.d (.v (.string ⟨#[]⟩)), .d (.v (.int .i64 0)), .d (.v (.int .i64 0))]) ∧ (fieldOff Tryd.prog 109 0 = some 0))))) ∧ ((((fieldOff Tryd.prog 109 1 = some 1) ∧ ((fieldOff Tryd.prog 109 2 = some 2) ∧ (structPl Tryd.prog 109 = some [(0, 1), (1, 1), (2, 1)]))) ∧ (((kindOf Tryd.prog 102 = some (some 2)) ∧ (sizeIn Tryd.prog 102 = some 2)) ∧ ((zeroCells? Tryd.prog 102 = some [.d (.v (.int .i64 0)), .d (.v (.slice none 0 0))]) ∧ (fieldOff Tryd.prog 102 0 = some 0)))) ∧ (((fieldOff Tryd.prog 102 1 = some 1) ∧ ((structPl Tryd.prog 102 = some [(0, 1), (1, 1)]) ∧ (kindOf Tryd.prog 34 = some (some 2)))) ∧ (((sizeIn Tryd.prog 34 = some 2) ∧ (zeroCells? Tryd.prog 34 = some [.d (.v (.slice none 0 0)), .d (.v (.slice none 0 0))])) ∧ ((fieldOff Tryd.prog 34 0 = some 0) ∧ (fieldOff Tryd.prog 34 1 = some 1)))))) ∧ (((((structPl Tryd.prog 34 = some [(0, 1), (1, 1)]) ∧ ((kindOf Tryd.prog 89 = some (some 2)) ∧ (sizeIn Tryd.prog 89 = some 2))) ∧ (((zeroCells? Tryd.prog 89 = some [.d (.v (.int .i64 0)), .d (.v (.int .i64 0))]) ∧ (fieldOff Tryd.prog 89 0 = some 0)) ∧ ((fieldOff Tryd.prog 89 1 = some 1) ∧ (structPl Tryd.prog 89 = some [(0, 1), (1, 1)])))) ∧ (((kindOf Tryd.prog 69 = some (some 7)) ∧ ((sizeIn Tryd.prog 69 = some 7) ∧ (zeroCells? Tryd.prog 69 = some [.d (.v (.int .i64 0)), .d (.v (.int .i64 0)), .d (.v (.int .i64 0)), .d (.v (.int .i64 0)), .d (.v (.int .i64 0)), .d (.v (.int .i64 0)), .d (.v (.int .i64 0))]))) ∧ (((fieldOff Tryd.prog 69 0 = some 0) ∧ (fieldOff Tryd.prog 69 1 = some 1)) ∧ ((fieldOff Tryd.prog 69 2 = some 2) ∧ (fieldOff Tryd.prog 69 3 = some 3))))) ∧ ((((fieldOff Tryd.prog 69 4 = some 4) ∧ ((fieldOff Tryd.prog 69 5 = some 5) ∧ (fieldOff Tryd.prog 69 6 = some 6))) ∧ (((structPl Tryd.prog 69 = some [(0, 1), (1, 1), (2, 1), (3, 1), (4, 1), (5, 1), (6, 1)]) ∧ (kindOf Tryd.prog 138 = some (some 2))) ∧ ((sizeIn Tryd.prog 138 = some 2) ∧ (zeroCells? Tryd.prog 138 = some [.d (.v (.slice none 0 0)), .d (.v (.slice none 0 0))])))) ∧ (((fieldOff Tryd.prog 138 0 = some 0) ∧ ((fieldOff Tryd.prog 138 1 = some 1) ∧ (structPl Tryd.prog 138 = some [(0, 1), (1, 1)]))) ∧ (((Tryd.prog.underlying 9 = some (.string)) ∧ (Tryd.prog.underlying 3 = some (.int .i64))) ∧ ((Tryd.prog.underlying 5 = some (.int .u8)) ∧ (Tryd.prog.underlying 21 = some (.int .i32))))))))) :=
  ⟨⟨⟨⟨⟨⟨ty_kind_int, ⟨ty_size_int, ty_zero_int⟩⟩, ⟨ty_kind_bool, ⟨ty_size_bool, ty_zero_bool⟩⟩⟩, ⟨⟨ty_kind_string, ⟨ty_size_string, ty_zero_string⟩⟩, ⟨⟨ty_kind_bitSet, ty_size_bitSet⟩, ⟨ty_zero_bitSet, ty_kind_uint8⟩⟩⟩⟩, ⟨⟨⟨ty_size_uint8, ⟨ty_zero_uint8, ty_kind_Lint⟩⟩, ⟨⟨ty_size_Lint, ty_zero_Lint⟩, ⟨ty_und_Lint, ty_el_Lint⟩⟩⟩, ⟨⟨ty_kind_LLint, ⟨ty_size_LLint, ty_zero_LLint⟩⟩, ⟨⟨ty_und_LLint, ty_el_LLint⟩, ⟨ty_kind_Lbool, ty_size_Lbool⟩⟩⟩⟩⟩, ⟨⟨⟨⟨ty_zero_Lbool, ⟨ty_und_Lbool, ty_el_Lbool⟩⟩, ⟨⟨ty_kind_Luint8, ty_size_Luint8⟩, ⟨ty_zero_Luint8, ty_und_Luint8⟩⟩⟩, ⟨⟨ty_el_Luint8, ⟨ty_kind_LRelation, ty_size_LRelation⟩⟩, ⟨⟨ty_zero_LRelation, ty_und_LRelation⟩, ⟨ty_el_LRelation, ty_kind_LFact⟩⟩⟩⟩, ⟨⟨⟨ty_size_LFact, ⟨ty_zero_LFact, ty_und_LFact⟩⟩, ⟨⟨ty_el_LFact, ty_kind_LConflictEdge⟩, ⟨ty_size_LConflictEdge, ty_zero_LConflictEdge⟩⟩⟩, ⟨⟨ty_und_LConflictEdge, ⟨ty_el_LConflictEdge, ty_kind_LDenialConstraint⟩⟩, ⟨⟨ty_size_LDenialConstraint, ty_zero_LDenialConstraint⟩, ⟨ty_und_LDenialConstraint, ty_el_LDenialConstraint⟩⟩⟩⟩⟩⟩, ⟨⟨⟨⟨⟨ty_kind_LbitSet, ⟨ty_size_LbitSet, ty_zero_LbitSet⟩⟩, ⟨⟨ty_und_LbitSet, ty_el_LbitSet⟩, ⟨ty_kind_conflictGraph, ty_size_conflictGraph⟩⟩⟩, ⟨⟨ty_zero_conflictGraph, ⟨ty_und_conflictGraph, ty_el_conflictGraph⟩⟩, ⟨⟨ty_kind_Relation, ty_size_Relation⟩, ⟨ty_zero_Relation, ty_off_Relation_0⟩⟩⟩⟩, ⟨⟨⟨ty_off_Relation_1, ⟨ty_off_Relation_2, ty_pl_Relation⟩⟩, ⟨⟨ty_kind_Fact, ty_size_Fact⟩, ⟨ty_zero_Fact, ty_off_Fact_0⟩⟩⟩, ⟨⟨ty_off_Fact_1, ⟨ty_pl_Fact, ty_kind_Database⟩⟩, ⟨⟨ty_size_Database, ty_zero_Database⟩, ⟨ty_off_Database_0, ty_off_Database_1⟩⟩⟩⟩⟩, ⟨⟨⟨⟨ty_pl_Database, ⟨ty_kind_ConflictEdge, ty_size_ConflictEdge⟩⟩, ⟨⟨ty_zero_ConflictEdge, ty_off_ConflictEdge_0⟩, ⟨ty_off_ConflictEdge_1, ty_pl_ConflictEdge⟩⟩⟩, ⟨⟨ty_kind_DenialConstraint, ⟨ty_size_DenialConstraint, ty_zero_DenialConstraint⟩⟩, ⟨⟨ty_off_DenialConstraint_0, ty_off_DenialConstraint_1⟩, ⟨ty_off_DenialConstraint_2, ty_off_DenialConstraint_3⟩⟩⟩⟩, ⟨⟨⟨ty_off_DenialConstraint_4, ⟨ty_off_DenialConstraint_5, ty_off_DenialConstraint_6⟩⟩, ⟨⟨ty_pl_DenialConstraint, ty_kind_preferenceGraph⟩, ⟨ty_size_preferenceGraph, ty_zero_preferenceGraph⟩⟩⟩, ⟨⟨ty_off_preferenceGraph_0, ⟨ty_off_preferenceGraph_1, ty_pl_preferenceGraph⟩⟩, ⟨⟨ty_und_string, ty_und_int⟩, ⟨ty_und_uint8, ty_und_int32⟩⟩⟩⟩⟩⟩⟩
end Go.Proofs.YtgipcnofonejcaaDoor.Ab


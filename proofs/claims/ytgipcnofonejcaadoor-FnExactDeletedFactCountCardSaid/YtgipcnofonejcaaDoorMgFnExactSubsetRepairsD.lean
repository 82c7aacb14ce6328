/- Texts behind FnExactSubsetRepairs, put together. -/
import Derived.Test.YtgipcnofonejcaaDoorMgFnExactSubsetRepairsC
section
/- What the reckoning asks of the types. Written by gen/abty.py. -/
open Go Go.Proofs Go.RowKit
namespace Go.Proofs.YtgipcnofonejcaaDoor.Ab
set_option maxRecDepth 100000

theorem ty_kind_int : kindOf Tryd.prog 3 = some none := by kernel_rfl
theorem ty_size_int : sizeIn Tryd.prog 3 = some 1 := by kernel_rfl
theorem ty_zero_int : zeroCells? Tryd.prog 3 = some [.d (.v (.int .i64 0))] := by kernel_rfl
theorem ty_kind_bool : kindOf Tryd.prog 4 = some none := by kernel_rfl
theorem ty_size_bool : sizeIn Tryd.prog 4 = some 1 := by kernel_rfl
theorem ty_zero_bool : zeroCells? Tryd.prog 4 = some [.d (.v (.bool false))] := by kernel_rfl
theorem ty_kind_string : kindOf Tryd.prog 9 = some none := by kernel_rfl
theorem ty_size_string : sizeIn Tryd.prog 9 = some 1 := by kernel_rfl
theorem ty_zero_string : zeroCells? Tryd.prog 9 = some [.d (.v (.string ⟨#[]⟩))] := by kernel_rfl
theorem ty_kind_bitSet : kindOf Tryd.prog 81 = some none := by kernel_rfl
theorem ty_size_bitSet : sizeIn Tryd.prog 81 = some 1 := by kernel_rfl
theorem ty_zero_bitSet : zeroCells? Tryd.prog 81 = some [.d (.v (.int .u64 0))] := by kernel_rfl
theorem ty_kind_uint8 : kindOf Tryd.prog 5 = some none := by kernel_rfl
theorem ty_size_uint8 : sizeIn Tryd.prog 5 = some 1 := by kernel_rfl
theorem ty_zero_uint8 : zeroCells? Tryd.prog 5 = some [.d (.v (.int .u8 0))] := by kernel_rfl
theorem ty_kind_Lint : kindOf Tryd.prog 46 = some none := by kernel_rfl
theorem ty_size_Lint : sizeIn Tryd.prog 46 = some 1 := by kernel_rfl
theorem ty_zero_Lint : zeroCells? Tryd.prog 46 = some [.d (.v (.slice none 0 0))] := by kernel_rfl
theorem ty_und_Lint : Tryd.prog.underlying 46 = some (.slice 3) := by kernel_rfl
theorem ty_el_Lint : elOf Tryd.prog 46 = some (3, 1, 8) := by kernel_rfl
theorem ty_kind_LLint : kindOf Tryd.prog 29 = some none := by kernel_rfl
theorem ty_size_LLint : sizeIn Tryd.prog 29 = some 1 := by kernel_rfl
theorem ty_zero_LLint : zeroCells? Tryd.prog 29 = some [.d (.v (.slice none 0 0))] := by kernel_rfl
theorem ty_und_LLint : Tryd.prog.underlying 29 = some (.slice 46) := by kernel_rfl
theorem ty_el_LLint : elOf Tryd.prog 29 = some (46, 1, 24) := by kernel_rfl
theorem ty_kind_Lbool : kindOf Tryd.prog 158 = some none := by kernel_rfl
theorem ty_size_Lbool : sizeIn Tryd.prog 158 = some 1 := by kernel_rfl
theorem ty_zero_Lbool : zeroCells? Tryd.prog 158 = some [.d (.v (.slice none 0 0))] := by kernel_rfl
theorem ty_und_Lbool : Tryd.prog.underlying 158 = some (.slice 4) := by kernel_rfl
theorem ty_el_Lbool : elOf Tryd.prog 158 = some (4, 1, 1) := by kernel_rfl
theorem ty_kind_Luint8 : kindOf Tryd.prog 153 = some none := by kernel_rfl
theorem ty_size_Luint8 : sizeIn Tryd.prog 153 = some 1 := by kernel_rfl
theorem ty_zero_Luint8 : zeroCells? Tryd.prog 153 = some [.d (.v (.slice none 0 0))] := by kernel_rfl
theorem ty_und_Luint8 : Tryd.prog.underlying 153 = some (.slice 5) := by kernel_rfl
theorem ty_el_Luint8 : elOf Tryd.prog 153 = some (5, 1, 1) := by kernel_rfl
theorem ty_kind_LRelation : kindOf Tryd.prog 31 = some none := by kernel_rfl
theorem ty_size_LRelation : sizeIn Tryd.prog 31 = some 1 := by kernel_rfl
theorem ty_zero_LRelation : zeroCells? Tryd.prog 31 = some [.d (.v (.slice none 0 0))] := by kernel_rfl
theorem ty_und_LRelation : Tryd.prog.underlying 31 = some (.slice 109) := by kernel_rfl
theorem ty_el_LRelation : elOf Tryd.prog 31 = some (109, 3, 32) := by kernel_rfl
theorem ty_kind_LFact : kindOf Tryd.prog 32 = some none := by kernel_rfl
theorem ty_size_LFact : sizeIn Tryd.prog 32 = some 1 := by kernel_rfl
theorem ty_zero_LFact : zeroCells? Tryd.prog 32 = some [.d (.v (.slice none 0 0))] := by kernel_rfl
theorem ty_und_LFact : Tryd.prog.underlying 32 = some (.slice 102) := by kernel_rfl
theorem ty_el_LFact : elOf Tryd.prog 32 = some (102, 2, 32) := by kernel_rfl
theorem ty_kind_LConflictEdge : kindOf Tryd.prog 56 = some none := by kernel_rfl
theorem ty_size_LConflictEdge : sizeIn Tryd.prog 56 = some 1 := by kernel_rfl
theorem ty_zero_LConflictEdge : zeroCells? Tryd.prog 56 = some [.d (.v (.slice none 0 0))] := by kernel_rfl
theorem ty_und_LConflictEdge : Tryd.prog.underlying 56 = some (.slice 89) := by kernel_rfl
theorem ty_el_LConflictEdge : elOf Tryd.prog 56 = some (89, 2, 16) := by kernel_rfl
theorem ty_kind_LDenialConstraint : kindOf Tryd.prog 36 = some none := by kernel_rfl
theorem ty_size_LDenialConstraint : sizeIn Tryd.prog 36 = some 1 := by kernel_rfl
theorem ty_zero_LDenialConstraint : zeroCells? Tryd.prog 36 = some [.d (.v (.slice none 0 0))] := by kernel_rfl
theorem ty_und_LDenialConstraint : Tryd.prog.underlying 36 = some (.slice 69) := by kernel_rfl
theorem ty_el_LDenialConstraint : elOf Tryd.prog 36 = some (69, 7, 56) := by kernel_rfl
theorem ty_kind_LbitSet : kindOf Tryd.prog 83 = some none := by kernel_rfl
theorem ty_size_LbitSet : sizeIn Tryd.prog 83 = some 1 := by kernel_rfl
theorem ty_zero_LbitSet : zeroCells? Tryd.prog 83 = some [.d (.v (.slice none 0 0))] := by kernel_rfl
theorem ty_und_LbitSet : Tryd.prog.underlying 83 = some (.slice 81) := by kernel_rfl
theorem ty_el_LbitSet : elOf Tryd.prog 83 = some (81, 1, 8) := by kernel_rfl
theorem ty_kind_conflictGraph : kindOf Tryd.prog 113 = some none := by kernel_rfl
theorem ty_size_conflictGraph : sizeIn Tryd.prog 113 = some 1 := by kernel_rfl
theorem ty_zero_conflictGraph : zeroCells? Tryd.prog 113 = some [.d (.v (.slice none 0 0))] := by kernel_rfl
theorem ty_und_conflictGraph : Tryd.prog.underlying 113 = some (.slice 81) := by kernel_rfl
theorem ty_el_conflictGraph : elOf Tryd.prog 113 = some (81, 1, 8) := by kernel_rfl
theorem ty_kind_Relation : kindOf Tryd.prog 109 = some (some 3) := by kernel_rfl
theorem ty_size_Relation : sizeIn Tryd.prog 109 = some 3 := by kernel_rfl
theorem ty_zero_Relation : zeroCells? Tryd.prog 109 = some [.d (.v (.string ⟨#[]⟩)), .d (.v (.int .i64 0)), .d (.v (.int .i64 0))] := by kernel_rfl
theorem ty_off_Relation_0 : fieldOff Tryd.prog 109 0 = some 0 := by kernel_rfl
theorem ty_off_Relation_1 : fieldOff Tryd.prog 109 1 = some 1 := by kernel_rfl
theorem ty_off_Relation_2 : fieldOff Tryd.prog 109 2 = some 2 := by kernel_rfl
theorem ty_pl_Relation : structPl Tryd.prog 109 = some [(0, 1), (1, 1), (2, 1)] := by kernel_rfl
theorem ty_kind_Fact : kindOf Tryd.prog 102 = some (some 2) := by kernel_rfl
theorem ty_size_Fact : sizeIn Tryd.prog 102 = some 2 := by kernel_rfl
theorem ty_zero_Fact : zeroCells? Tryd.prog 102 = some [.d (.v (.int .i64 0)), .d (.v (.slice none 0 0))] := by kernel_rfl
theorem ty_off_Fact_0 : fieldOff Tryd.prog 102 0 = some 0 := by kernel_rfl
theorem ty_off_Fact_1 : fieldOff Tryd.prog 102 1 = some 1 := by kernel_rfl
theorem ty_pl_Fact : structPl Tryd.prog 102 = some [(0, 1), (1, 1)] := by kernel_rfl
theorem ty_kind_Database : kindOf Tryd.prog 34 = some (some 2) := by kernel_rfl
theorem ty_size_Database : sizeIn Tryd.prog 34 = some 2 := by kernel_rfl
theorem ty_zero_Database : zeroCells? Tryd.prog 34 = some [.d (.v (.slice none 0 0)), .d (.v (.slice none 0 0))] := by kernel_rfl
theorem ty_off_Database_0 : fieldOff Tryd.prog 34 0 = some 0 := by kernel_rfl
theorem ty_off_Database_1 : fieldOff Tryd.prog 34 1 = some 1 := by kernel_rfl
theorem ty_pl_Database : structPl Tryd.prog 34 = some [(0, 1), (1, 1)] := by kernel_rfl
theorem ty_kind_ConflictEdge : kindOf Tryd.prog 89 = some (some 2) := by kernel_rfl
theorem ty_size_ConflictEdge : sizeIn Tryd.prog 89 = some 2 := by kernel_rfl
theorem ty_zero_ConflictEdge : zeroCells? Tryd.prog 89 = some [.d (.v (.int .i64 0)), .d (.v (.int .i64 0))] := by kernel_rfl
theorem ty_off_ConflictEdge_0 : fieldOff Tryd.prog 89 0 = some 0 := by kernel_rfl
theorem ty_off_ConflictEdge_1 : fieldOff Tryd.prog 89 1 = some 1 := by kernel_rfl
theorem ty_pl_ConflictEdge : structPl Tryd.prog 89 = some [(0, 1), (1, 1)] := by kernel_rfl
theorem ty_kind_DenialConstraint : kindOf Tryd.prog 69 = some (some 7) := by kernel_rfl
theorem ty_size_DenialConstraint : sizeIn Tryd.prog 69 = some 7 := by kernel_rfl
theorem ty_zero_DenialConstraint : zeroCells? Tryd.prog 69 = some [.d (.v (.int .i64 0)), .d (.v (.int .i64 0)), .d (.v (.int .i64 0)), .d (.v (.int .i64 0)), .d (.v (.int .i64 0)), .d (.v (.int .i64 0)), .d (.v (.int .i64 0))] := by kernel_rfl
theorem ty_off_DenialConstraint_0 : fieldOff Tryd.prog 69 0 = some 0 := by kernel_rfl
theorem ty_off_DenialConstraint_1 : fieldOff Tryd.prog 69 1 = some 1 := by kernel_rfl
theorem ty_off_DenialConstraint_2 : fieldOff Tryd.prog 69 2 = some 2 := by kernel_rfl
theorem ty_off_DenialConstraint_3 : fieldOff Tryd.prog 69 3 = some 3 := by kernel_rfl
theorem ty_off_DenialConstraint_4 : fieldOff Tryd.prog 69 4 = some 4 := by kernel_rfl
theorem ty_off_DenialConstraint_5 : fieldOff Tryd.prog 69 5 = some 5 := by kernel_rfl
theorem ty_off_DenialConstraint_6 : fieldOff Tryd.prog 69 6 = some 6 := by kernel_rfl
theorem ty_pl_DenialConstraint : structPl Tryd.prog 69 = some [(0, 1), (1, 1), (2, 1), (3, 1), (4, 1), (5, 1), (6, 1)] := by kernel_rfl
theorem ty_kind_preferenceGraph : kindOf Tryd.prog 138 = some (some 2) := by kernel_rfl
theorem ty_size_preferenceGraph : sizeIn Tryd.prog 138 = some 2 := by kernel_rfl
theorem ty_zero_preferenceGraph : zeroCells? Tryd.prog 138 = some [.d (.v (.slice none 0 0)), .d (.v (.slice none 0 0))] := by kernel_rfl
theorem ty_off_preferenceGraph_0 : fieldOff Tryd.prog 138 0 = some 0 := by kernel_rfl
theorem ty_off_preferenceGraph_1 : fieldOff Tryd.prog 138 1 = some 1 := by kernel_rfl
theorem ty_pl_preferenceGraph : structPl Tryd.prog 138 = some [(0, 1), (1, 1)] := by kernel_rfl
theorem ty_und_string : Tryd.prog.underlying 9 = some (.string) := by kernel_rfl
theorem ty_und_int : Tryd.prog.underlying 3 = some (.int .i64) := by kernel_rfl
theorem ty_und_uint8 : Tryd.prog.underlying 5 = some (.int .u8) := by kernel_rfl
theorem ty_und_int32 : Tryd.prog.underlying 21 = some (.int .i32) := by kernel_rfl
theorem ty_mix : Tryd.prog.follows .mixedOrders = true := by kernel_rfl
theorem tyL : (((((((kindOf Tryd.prog 3 = some none) ∧ ((sizeIn Tryd.prog 3 = some 1) ∧ (zeroCells? Tryd.prog 3 = some [.d (.v (.int .i64 0))]))) ∧ ((kindOf Tryd.prog 4 = some none) ∧ ((sizeIn Tryd.prog 4 = some 1) ∧ (zeroCells? Tryd.prog 4 = some [.d (.v (.bool false))])))) ∧ (((kindOf Tryd.prog 9 = some none) ∧ ((sizeIn Tryd.prog 9 = some 1) ∧ (zeroCells? Tryd.prog 9 = some [.d (.v (.string ⟨#[]⟩))]))) ∧ (((kindOf Tryd.prog 81 = some none) ∧ (sizeIn Tryd.prog 81 = some 1)) ∧ ((zeroCells? Tryd.prog 81 = some [.d (.v (.int .u64 0))]) ∧ (kindOf Tryd.prog 5 = some none))))) ∧ ((((sizeIn Tryd.prog 5 = some 1) ∧ ((zeroCells? Tryd.prog 5 = some [.d (.v (.int .u8 0))]) ∧ (kindOf Tryd.prog 46 = some none))) ∧ (((sizeIn Tryd.prog 46 = some 1) ∧ (zeroCells? Tryd.prog 46 = some [.d (.v (.slice none 0 0))])) ∧ ((Tryd.prog.underlying 46 = some (.slice 3)) ∧ (elOf Tryd.prog 46 = some (3, 1, 8))))) ∧ (((kindOf Tryd.prog 29 = some none) ∧ ((sizeIn Tryd.prog 29 = some 1) ∧ (zeroCells? Tryd.prog 29 = some [.d (.v (.slice none 0 0))]))) ∧ (((Tryd.prog.underlying 29 = some (.slice 46)) ∧ (elOf Tryd.prog 29 = some (46, 1, 24))) ∧ ((kindOf Tryd.prog 158 = some none) ∧ (sizeIn Tryd.prog 158 = some 1)))))) ∧ (((((zeroCells? Tryd.prog 158 = some [.d (.v (.slice none 0 0))]) ∧ ((Tryd.prog.underlying 158 = some (.slice 4)) ∧ (elOf Tryd.prog 158 = some (4, 1, 1)))) ∧ (((kindOf Tryd.prog 153 = some none) ∧ (sizeIn Tryd.prog 153 = some 1)) ∧ ((zeroCells? Tryd.prog 153 = some [.d (.v (.slice none 0 0))]) ∧ (Tryd.prog.underlying 153 = some (.slice 5))))) ∧ (((elOf Tryd.prog 153 = some (5, 1, 1)) ∧ ((kindOf Tryd.prog 31 = some none) ∧ (sizeIn Tryd.prog 31 = some 1))) ∧ (((zeroCells? Tryd.prog 31 = some [.d (.v (.slice none 0 0))]) ∧ (Tryd.prog.underlying 31 = some (.slice 109))) ∧ ((elOf Tryd.prog 31 = some (109, 3, 32)) ∧ (kindOf Tryd.prog 32 = some none))))) ∧ ((((sizeIn Tryd.prog 32 = some 1) ∧ ((zeroCells? Tryd.prog 32 = some [.d (.v (.slice none 0 0))]) ∧ (Tryd.prog.underlying 32 = some (.slice 102)))) ∧ (((elOf Tryd.prog 32 = some (102, 2, 32)) ∧ (kindOf Tryd.prog 56 = some none)) ∧ ((sizeIn Tryd.prog 56 = some 1) ∧ (zeroCells? Tryd.prog 56 = some [.d (.v (.slice none 0 0))])))) ∧ (((Tryd.prog.underlying 56 = some (.slice 89)) ∧ ((elOf Tryd.prog 56 = some (89, 2, 16)) ∧ (kindOf Tryd.prog 36 = some none))) ∧ (((sizeIn Tryd.prog 36 = some 1) ∧ (zeroCells? Tryd.prog 36 = some [.d (.v (.slice none 0 0))])) ∧ ((Tryd.prog.underlying 36 = some (.slice 69)) ∧ (elOf Tryd.prog 36 = some (69, 7, 56)))))))) ∧ ((((((kindOf Tryd.prog 83 = some none) ∧ ((sizeIn Tryd.prog 83 = some 1) ∧ (zeroCells? Tryd.prog 83 = some [.d (.v (.slice none 0 0))]))) ∧ (((Tryd.prog.underlying 83 = some (.slice 81)) ∧ (elOf Tryd.prog 83 = some (81, 1, 8))) ∧ ((kindOf Tryd.prog 113 = some none) ∧ (sizeIn Tryd.prog 113 = some 1)))) ∧ (((zeroCells? Tryd.prog 113 = some [.d (.v (.slice none 0 0))]) ∧ ((Tryd.prog.underlying 113 = some (.slice 81)) ∧ (elOf Tryd.prog 113 = some (81, 1, 8)))) ∧ (((kindOf Tryd.prog 109 = some (some 3)) ∧ (sizeIn Tryd.prog 109 = some 3)) ∧ ((zeroCells? Tryd.prog 109 = some [.d (.v (.string ⟨#[]⟩)), .d (.v (.int .i64 0)), .d (.v (.int .i64 0))]) ∧ (fieldOff Tryd.prog 109 0 = some 0))))) ∧ ((((fieldOff Tryd.prog 109 1 = some 1) ∧ ((fieldOff Tryd.prog 109 2 = some 2) ∧ (structPl Tryd.prog 109 = some [(0, 1), (1, 1), (2, 1)]))) ∧ (((kindOf Tryd.prog 102 = some (some 2)) ∧ (sizeIn Tryd.prog 102 = some 2)) ∧ ((zeroCells? Tryd.prog 102 = some [.d (.v (.int .i64 0)), .d (.v (.slice none 0 0))]) ∧ (fieldOff Tryd.prog 102 0 = some 0)))) ∧ (((fieldOff Tryd.prog 102 1 = some 1) ∧ ((structPl Tryd.prog 102 = some [(0, 1), (1, 1)]) ∧ (kindOf Tryd.prog 34 = some (some 2)))) ∧ (((sizeIn Tryd.prog 34 = some 2) ∧ (zeroCells? Tryd.prog 34 = some [.d (.v (.slice none 0 0)), .d (.v (.slice none 0 0))])) ∧ ((fieldOff Tryd.prog 34 0 = some 0) ∧ (fieldOff Tryd.prog 34 1 = some 1)))))) ∧ (((((structPl Tryd.prog 34 = some [(0, 1), (1, 1)]) ∧ ((kindOf Tryd.prog 89 = some (some 2)) ∧ (sizeIn Tryd.prog 89 = some 2))) ∧ (((zeroCells? Tryd.prog 89 = some [.d (.v (.int .i64 0)), .d (.v (.int .i64 0))]) ∧ (fieldOff Tryd.prog 89 0 = some 0)) ∧ ((fieldOff Tryd.prog 89 1 = some 1) ∧ (structPl Tryd.prog 89 = some [(0, 1), (1, 1)])))) ∧ (((kindOf Tryd.prog 69 = some (some 7)) ∧ ((sizeIn Tryd.prog 69 = some 7) ∧ (zeroCells? Tryd.prog 69 = some [.d (.v (.int .i64 0)), .d (.v (.int .i64 0)), .d (.v (.int .i64 0)), .d (.v (.int .i64 0)), .d (.v (.int .i64 0)), .d (.v (.int .i64 0)), .d (.v (.int .i64 0))]))) ∧ (((fieldOff Tryd.prog 69 0 = some 0) ∧ (fieldOff Tryd.prog 69 1 = some 1)) ∧ ((fieldOff Tryd.prog 69 2 = some 2) ∧ (fieldOff Tryd.prog 69 3 = some 3))))) ∧ ((((fieldOff Tryd.prog 69 4 = some 4) ∧ ((fieldOff Tryd.prog 69 5 = some 5) ∧ (fieldOff Tryd.prog 69 6 = some 6))) ∧ (((structPl Tryd.prog 69 = some [(0, 1), (1, 1), (2, 1), (3, 1), (4, 1), (5, 1), (6, 1)]) ∧ (kindOf Tryd.prog 138 = some (some 2))) ∧ ((sizeIn Tryd.prog 138 = some 2) ∧ (zeroCells? Tryd.prog 138 = some [.d (.v (.slice none 0 0)), .d (.v (.slice none 0 0))])))) ∧ (((fieldOff Tryd.prog 138 0 = some 0) ∧ ((fieldOff Tryd.prog 138 1 = some 1) ∧ (structPl Tryd.prog 138 = some [(0, 1), (1, 1)]))) ∧ (((Tryd.prog.underlying 9 = some (.string)) ∧ (Tryd.prog.underlying 3 = some (.int .i64))) ∧ ((Tryd.prog.underlying 5 = some (.int .u8)) ∧ (Tryd.prog.underlying 21 = some (.int .i32))))))))) :=
  ⟨⟨⟨⟨⟨⟨ty_kind_int, ⟨ty_size_int, ty_zero_int⟩⟩, ⟨ty_kind_bool, ⟨ty_size_bool, ty_zero_bool⟩⟩⟩, ⟨⟨ty_kind_string, ⟨ty_size_string, ty_zero_string⟩⟩, ⟨⟨ty_kind_bitSet, ty_size_bitSet⟩, ⟨ty_zero_bitSet, ty_kind_uint8⟩⟩⟩⟩, ⟨⟨⟨ty_size_uint8, ⟨ty_zero_uint8, ty_kind_Lint⟩⟩, ⟨⟨ty_size_Lint, ty_zero_Lint⟩, ⟨ty_und_Lint, ty_el_Lint⟩⟩⟩, ⟨⟨ty_kind_LLint, ⟨ty_size_LLint, ty_zero_LLint⟩⟩, ⟨⟨ty_und_LLint, ty_el_LLint⟩, ⟨ty_kind_Lbool, ty_size_Lbool⟩⟩⟩⟩⟩, ⟨⟨⟨⟨ty_zero_Lbool, ⟨ty_und_Lbool, ty_el_Lbool⟩⟩, ⟨⟨ty_kind_Luint8, ty_size_Luint8⟩, ⟨ty_zero_Luint8, ty_und_Luint8⟩⟩⟩, ⟨⟨ty_el_Luint8, ⟨ty_kind_LRelation, ty_size_LRelation⟩⟩, ⟨⟨ty_zero_LRelation, ty_und_LRelation⟩, ⟨ty_el_LRelation, ty_kind_LFact⟩⟩⟩⟩, ⟨⟨⟨ty_size_LFact, ⟨ty_zero_LFact, ty_und_LFact⟩⟩, ⟨⟨ty_el_LFact, ty_kind_LConflictEdge⟩, ⟨ty_size_LConflictEdge, ty_zero_LConflictEdge⟩⟩⟩, ⟨⟨ty_und_LConflictEdge, ⟨ty_el_LConflictEdge, ty_kind_LDenialConstraint⟩⟩, ⟨⟨ty_size_LDenialConstraint, ty_zero_LDenialConstraint⟩, ⟨ty_und_LDenialConstraint, ty_el_LDenialConstraint⟩⟩⟩⟩⟩⟩, ⟨⟨⟨⟨⟨ty_kind_LbitSet, ⟨ty_size_LbitSet, ty_zero_LbitSet⟩⟩, ⟨⟨ty_und_LbitSet, ty_el_LbitSet⟩, ⟨ty_kind_conflictGraph, ty_size_conflictGraph⟩⟩⟩, ⟨⟨ty_zero_conflictGraph, ⟨ty_und_conflictGraph, ty_el_conflictGraph⟩⟩, ⟨⟨ty_kind_Relation, ty_size_Relation⟩, ⟨ty_zero_Relation, ty_off_Relation_0⟩⟩⟩⟩, ⟨⟨⟨ty_off_Relation_1, ⟨ty_off_Relation_2, ty_pl_Relation⟩⟩, ⟨⟨ty_kind_Fact, ty_size_Fact⟩, ⟨ty_zero_Fact, ty_off_Fact_0⟩⟩⟩, ⟨⟨ty_off_Fact_1, ⟨ty_pl_Fact, ty_kind_Database⟩⟩, ⟨⟨ty_size_Database, ty_zero_Database⟩, ⟨ty_off_Database_0, ty_off_Database_1⟩⟩⟩⟩⟩, ⟨⟨⟨⟨ty_pl_Database, ⟨ty_kind_ConflictEdge, ty_size_ConflictEdge⟩⟩, ⟨⟨ty_zero_ConflictEdge, ty_off_ConflictEdge_0⟩, ⟨ty_off_ConflictEdge_1, ty_pl_ConflictEdge⟩⟩⟩, ⟨⟨ty_kind_DenialConstraint, ⟨ty_size_DenialConstraint, ty_zero_DenialConstraint⟩⟩, ⟨⟨ty_off_DenialConstraint_0, ty_off_DenialConstraint_1⟩, ⟨ty_off_DenialConstraint_2, ty_off_DenialConstraint_3⟩⟩⟩⟩, ⟨⟨⟨ty_off_DenialConstraint_4, ⟨ty_off_DenialConstraint_5, ty_off_DenialConstraint_6⟩⟩, ⟨⟨ty_pl_DenialConstraint, ty_kind_preferenceGraph⟩, ⟨ty_size_preferenceGraph, ty_zero_preferenceGraph⟩⟩⟩, ⟨⟨ty_off_preferenceGraph_0, ⟨ty_off_preferenceGraph_1, ty_pl_preferenceGraph⟩⟩, ⟨⟨ty_und_string, ty_und_int⟩, ⟨ty_und_uint8, ty_und_int32⟩⟩⟩⟩⟩⟩⟩
end Go.Proofs.YtgipcnofonejcaaDoor.Ab
end

section
/- The chapters' data in the layer: numbers, relations, facts, databases, edges, atoms, queries. -/
open Go Go.Proofs Go.RowKit
namespace Go.Proofs.YtgipcnofonejcaaDoor.Ab
set_option linter.unusedSimpArgs false
set_option linter.unusedVariables false
set_option maxRecDepth 100000
def encI (x : Int) : List D := [.v (.int .i64 x)]
def encIs (l : List Int) : D := .sl (l.map encI)
def encB (l : List Int) : List D := [encIs l]
def encIss (l : List (List Int)) : D := .sl (l.map encB)
def encR (x : Rel) : List D := [.v (.string x.name), .v (.int .i64 x.arity), .v (.int .i64 x.key)]
def encRs (l : List Rel) : D := .sl (l.map encR)
def encF (x : Fct) : List D := [.v (.int .i64 x.rel), encIs x.vals]
def encFs (l : List Fct) : D := .sl (l.map encF)
def encE (x : Edg) : List D := [.v (.int .i64 x.a), .v (.int .i64 x.b)]
def encEs (l : List Edg) : D := .sl (l.map encE)
def encA (x : Atm) : List D := [.v (.int .i64 x.rel), encIs x.terms]
def encAs (l : List Atm) : D := .sl (l.map encA)
def encC (x : Dcn) : List D := [.v (.int .i64 x.r1), .v (.int .i64 x.r2), .v (.int .i64 x.j1), .v (.int .i64 x.j2), .v (.int .i64 x.c1), .v (.int .i64 x.c2), .v (.int .i64 x.cmp)]
def encCs (l : List Dcn) : D := .sl (l.map encC)
/-- A database that is handed over. -/
def dbS (d : Dbs) : S := .a [.d (encRs d.rels), .d (encFs d.facts)]
theorem encL : ((((type_of% @encIs.eq_1) ∧ ((type_of% @encIss.eq_1) ∧ (type_of% @encRs.eq_1))) ∧ (((type_of% @encFs.eq_1) ∧ (type_of% @encEs.eq_1)) ∧ ((type_of% @encAs.eq_1) ∧ (type_of% @encCs.eq_1)))) ∧ (((type_of% @encB.eq_1) ∧ ((type_of% @encR.eq_1) ∧ (type_of% @encF.eq_1))) ∧ (((type_of% @encE.eq_1) ∧ (type_of% @encA.eq_1)) ∧ ((type_of% @encC.eq_1) ∧ (type_of% @dbS.eq_1))))) :=
  ⟨⟨⟨@encIs.eq_1, ⟨@encIss.eq_1, @encRs.eq_1⟩⟩, ⟨⟨@encFs.eq_1, @encEs.eq_1⟩, ⟨@encAs.eq_1, @encCs.eq_1⟩⟩⟩, ⟨⟨@encB.eq_1, ⟨@encR.eq_1, @encF.eq_1⟩⟩, ⟨⟨@encE.eq_1, @encA.eq_1⟩, ⟨@encC.eq_1, @dbS.eq_1⟩⟩⟩⟩
/-- A struct by its data. -/
def sA (l : List D) : S := .a (l.map S.d)
def eRel : Enc cRel := eMap _ (ePair eStr (ePair eInt eInt))
def eFct : Enc cFct := eMap _ (ePair eInt (eSlice eInt))
def eDbs : Enc cDbs := eMap _ (ePair (eSlice eRel) (eSlice eFct))
def eEdg : Enc cEdg := eMap _ (ePair eInt eInt)
def eAtm : Enc cAtm := eMap _ (ePair eInt (eSlice eInt))
def eQry : Enc cQry := eMap _ (ePair eInt (ePair (eSlice eAtm) (eSlice eInt)))
theorem getI {l : List Int} {i : Nat} (h : i < l.length) : (l.map encI)[i]? = some [.v (.int .i64 l[i])] := by simp [h, encI]
theorem getF {l : List Fct} {i : Nat} (h : i < l.length) : (l.map encF)[i]? = some (encF l[i]) := by simp [h]
theorem getE {l : List Edg} {i : Nat} (h : i < l.length) : (l.map encE)[i]? = some (encE l[i]) := by simp [h]
theorem wrapN {i n : Nat} (h : i < n) (hn : n ≤ 4611686018427387904) : IntKind.i64.wrap ((i : Int) + 1) = ((i + 1 : Nat) : Int) := by rw [IntKind.wrap_i64]; omega
theorem int_cut {k : IntKind} {x : Int} {w : World} {G : Gh} {v : Value} (h : RdS w G (.d (.v (.int k x))) v) : v = .int k x := h.int
theorem ints_cut {l : List Int} (g : (eSlice eInt).good l) {w : World} {K : Nat → Nat → Prop} {ov : Nat → Value} {v : Value} (hK : ∀ b o, K b o → b < w.heap.size) (hr : RdS w (ghA K ov) (.d (encIs l)) v) :
    ∃ a cap, v = .slice a l.length cap ∧ At (cSlice cInt) w l [.slice a l.length cap] := by
  have h := (eSlice eInt).at1 (x := l) rfl g hK hr
  obtain ⟨a, cap, e, _⟩ := id h
  injection e with e
  subst e
  exact ⟨a, cap, rfl, h⟩
theorem RdV.t2 {w w' : World} {K : Nat → Nat → Prop} {x y v : Value} (h : RdV w K w' (.t [.d (.v x), .d (.v y)]) v) : v = .tuple #[x, y] := by
  obtain ⟨F, ov, h1, _⟩ := h
  simp only [RdS, RdSs, RdD] at h1
  obtain ⟨cs, rfl, c1, c2, rfl, ⟨rfl, _⟩, c3, c4, rfl, ⟨rfl, _⟩, rfl⟩ := h1
  rfl
end Go.Proofs.YtgipcnofonejcaaDoor.Ab
end

section
/-
  DERIVED: THE SHELF's CONTRACTS AT THIS DUMP, IN PLAIN WORDS (tools/lay-plain.mjs out of 'TrydShelf.lean', which tools/lay-shelf.mjs wrote): THE SAME DECLARATIONS UNDER THE SAME NAMES: 'import', 'namespace', 'open', 'def', 'theorem' AND NOTHING ELSE: no command of the shelf's: FOR A HAND-IN. Each laying: the table of numbers ('.._ren') and one theorem, a field a fact of the dump's own or the kernel's comparison; each contract: ONE APPLICATION.
-/
namespace Go.Proofs
open Go.Shelf
def Tryd.lays213_ren : Go.Shelf.Ren := ⟨fun | 213 => 147 | 265 => 148 | n => n, fun | 9 => 9 | 3 => 3 | n => n, fun | n => n⟩
def Tryd.lays106_ren : Go.Shelf.Ren := ⟨fun | 106 => 140 | 213 => 147 | 265 => 148 | n => n, fun | 9 => 9 | 3 => 3 | n => n, fun | n => n⟩
theorem Tryd.lays106 : Go.Proofs.Lays.n106 Tryd.prog Tryd.lays106_ren := {
  mixed := by kernel_rfl
  f106 := Tryd.func140.trans (congrArg some (by kernel_rfl))
  f213 := Tryd.func147.trans (congrArg some (by kernel_rfl))
  f265 := Tryd.func148.trans (congrArg some (by kernel_rfl))
  t3 := Tryd.underlying3
  a3 := Tryd.isAgg3
  z3 := Tryd.sizeOf3
  v3 := Tryd.zeroValue3
  t9 := Tryd.underlying9
  a9 := Tryd.isAgg9
  z9 := Tryd.sizeOf9
  v9 := Tryd.zeroValue9 }
open Go.RowKit in
/-- strings.Compare: "Compare returns an integer comparing two strings lexicographically. The result will be 0 if a == b, -1 if a < b, and +1 if a > b.": IT RETURNS 'Lib.compareBytes a b'; the world is as it was. (LAID: no walk: one application.) -/
theorem Tryd.strings_Compare (a b : ByteArray) (w : World) :
    Calls Tryd.prog 140 #[.string a, .string b] w fun e w' => e = .returned (.int .i64 (Lib.compareBytes a.data.toList b.data.toList)) ∧ w' = w := Any.strings_Compare Tryd.lays106 a b w
def Tryd.lays215_ren : Go.Shelf.Ren := ⟨fun | 215 => 129 | n => n, fun | 3 => 3 | 4 => 4 | n => n, fun | n => n⟩
def Tryd.lays122_ren : Go.Shelf.Ren := ⟨fun | 122 => 103 | 215 => 129 | n => n, fun | 3 => 3 | 4 => 4 | n => n, fun | n => n⟩
theorem Tryd.lays122 : Go.Proofs.Lays.n122 Tryd.prog Tryd.lays122_ren := {
  mixed := by kernel_rfl
  f122 := Tryd.func103.trans (congrArg some (by kernel_rfl))
  f215 := Tryd.func129.trans (congrArg some (by kernel_rfl))
  t3 := Tryd.underlying3
  a3 := Tryd.isAgg3
  z3 := Tryd.sizeOf3
  v3 := Tryd.zeroValue3
  t4 := Tryd.underlying4
  a4 := Tryd.isAgg4
  z4 := Tryd.sizeOf4
  v4 := Tryd.zeroValue4 }
open Go.RowKit in
/-- cmp.Compare at int: "Compare returns -1 if x is less than y, 0 if x equals y, +1 if x is greater than y.": IT RETURNS 'Lib.compareInt x y'; the world is as it was. (LAID: no walk: one application.) -/
theorem Tryd.cmp_Compare_int (x y : Int) (w : World) :
    Calls Tryd.prog 103 #[.int .i64 x, .int .i64 y] w fun e w' => e = .returned (.int .i64 (Lib.compareInt x y)) ∧ w' = w := Any.cmp_Compare_int Tryd.lays122 x y w
def Tryd.lays111_ren : Go.Shelf.Ren := ⟨fun | 111 => 126 | n => n, fun | 28 => 46 | 3 => 3 | 4 => 4 | 0 => 0 | n => n, fun | n => n⟩
def Tryd.laysNm237_ren : Go.Shelf.Ren := ⟨fun | 37 => 129 | n => n, fun | 3 => 3 | 4 => 4 | n => n, fun | n => n⟩
end Go.Proofs
end

section
/- RelOne: In RelSpec2 FactSpec RelImpl2 RelImpl3 FactImpl FactImpl2. -/
/- Between two bounds: the model's test. -/
namespace Go.Proofs.YtgipcnofonejcaaDoor
open Go.RowKit
set_option linter.unusedVariables false
set_option maxRecDepth 100000

/-- Between two bounds. -/
def inB (n lo hi : Int) : Bool := decide (lo ≤ n) && decide (n ≤ hi)
theorem l1In_any (n lo hi : Int) (w : World) :
    Calls Tryd.prog 99 #[.int .i64 n, .int .i64 lo, .int .i64 hi] w fun e w' => e = .returned (.bool (inB n lo hi)) ∧ w = w' := by
  unfold inB
  by_cases h : lo ≤ n
  · go_enter Tryd.func99, Tryd.ntmps99
    go_wp2
    go_ret
    exact ⟨by simp; omega, rfl⟩
  · go_enter Tryd.func99, Tryd.ntmps99
    go_wp2
    go_ret
    exact ⟨by simp; omega, rfl⟩
end Go.Proofs.YtgipcnofonejcaaDoor

/- Chapter 2: the model's functions on relations. -/
namespace Go.Proofs.YtgipcnofonejcaaDoor
open Go.RowKit
set_option linter.unusedVariables false
set_option maxRecDepth 100000

/-- One letter from a to z. -/
def validName (n : ByteArray) : Bool := if h : n.size = 1 then decide (97 ≤ n[0].toNat) && decide (n[0].toNat ≤ 122) else false
/-- A valid relation. -/
def validRel (r : Rel) : Bool := validName r.name && (inB r.arity 1 3 && inB r.key 0 r.arity)
theorem validName_one {n : ByteArray} (h : n.size = 1) : validName n = (decide (97 ≤ n[0].toNat) && decide (n[0].toNat ≤ 122)) := by unfold validName; rw [dif_pos h]
theorem validName_not {n : ByteArray} (h : n.size ≠ 1) : validName n = false := by unfold validName; rw [dif_neg h]
set_option maxHeartbeats 800000 in
theorem specIsValidRelation_c {r : Rel} {w : World} (h : At cRel w r [.string r.name, .int .i64 r.arity, .int .i64 r.key]) :
    Calls Tryd.prog 115 #[.agg #[.string r.name, .int .i64 r.arity, .int .i64 r.key]] w fun e w' => e = .returned (.bool (validRel r)) ∧ Below w.heap.size w w' := by
  have hr := (cRel_inv h).2.1
  clear h
  obtain ⟨n, a, k⟩ := r
  unfold maxLen at hr
  simp only [validRel] at *
  by_cases h1 : n.size = 1
  · have hn := validName_one h1
    have hlt : 0 < n.size := by omega
    have hb := n[0].toNat_lt
    generalize hu : n[0] = u at *
    by_cases h2 : (97 : Int) ≤ (u.toNat : Int)
    · by_cases h3 : (u.toNat : Int) ≤ 122
      · have hn2 : validName n = true := by rw [hn]; simp; omega
        rw [hn2, Bool.true_and]
        clear hn hn2
        cases hi : inB a 1 3 with
        | true =>
          rw [Bool.true_and]
          go_enter Tryd.func115, Tryd.ntmps115
          go_wp2_with (go_at_call 99; refine (l1In_any _ _ _ _).mono ?_; rintro e w' ⟨rfl, rfl⟩)
          go_ret
          exact ⟨rfl, by go_grown⟩
        | false =>
          rw [Bool.false_and]
          go_enter Tryd.func115, Tryd.ntmps115
          go_wp2_with (go_at_call 99; refine (l1In_any _ _ _ _).mono ?_; rintro e w' ⟨rfl, rfl⟩)
          go_ret
          exact ⟨rfl, by go_grown⟩
      · have hn2 : validName n = false := by rw [hn]; simp; omega
        rw [hn2, Bool.false_and]
        clear hn hn2
        go_enter Tryd.func115, Tryd.ntmps115
        go_wp2_with (go_at_call 99; refine (l1In_any _ _ _ _).mono ?_; rintro e w' ⟨rfl, rfl⟩)
        go_ret
        exact ⟨rfl, by go_grown⟩
    · have hn2 : validName n = false := by rw [hn]; simp; omega
      rw [hn2, Bool.false_and]
      clear hn hn2
      go_enter Tryd.func115, Tryd.ntmps115
      go_wp2_with (go_at_call 99; refine (l1In_any _ _ _ _).mono ?_; rintro e w' ⟨rfl, rfl⟩)
      go_ret
      exact ⟨rfl, by go_grown⟩
  · rw [validName_not h1, Bool.false_and]
    have h2 : ((n.size : Int) == 1) = false := by simp; omega
    go_enter Tryd.func115, Tryd.ntmps115
    go_wp2_with (go_at_call 99; refine (l1In_any _ _ _ _).mono ?_; rintro e w' ⟨rfl, rfl⟩)
    go_ret
    exact ⟨rfl, by go_grown⟩

/-- The name before place k. -/
def prevOf (l : List Rel) : Nat → Option ByteArray
  | 0 => none
  | k + 1 => l[k]?.map Rel.name
/-- A name after the one before. -/
def okPrev : Option ByteArray → ByteArray → Bool
  | none, _ => true
  | some q, n => Op.bytesLess q.toList n.toList
/-- Valid relations, ascending from a name on. -/
def ascFrom : Option ByteArray → List Rel → Bool
  | _, [] => true
  | p, r :: l => validRel r && (okPrev p r.name && ascFrom (some r.name) l)
def validRels (l : List Rel) : Bool := ascFrom none l && decide (l.length ≤ 4)
theorem ascFrom_step (l : List Rel) (k : Nat) (hk : k < l.length) : ascFrom (prevOf l k) (l.drop k) = (validRel l[k] && (okPrev (prevOf l k) l[k].name && ascFrom (prevOf l (k + 1)) (l.drop (k + 1)))) := by
  rw [List.drop_eq_getElem_cons hk]
  simp [ascFrom, prevOf, hk]
theorem okPrev_succ (l : List Rel) (k : Nat) (hk : k < l.length) (n : ByteArray) : okPrev (prevOf l (k + 1)) n = Op.bytesLess l[k].name.toList n.toList := by
  simp [prevOf, hk, okPrev]

set_option maxHeartbeats 1600000 in
theorem specAreValidRelations_c {a0 : Option Addr} {cap0 : Nat} {l : List Rel} {w : World} (h : At (cSlice cRel) w l [.slice a0 l.length cap0]) :
    Calls Tryd.prog 72 #[.slice a0 l.length cap0] w fun e w' => e = .returned (.bool (validRels l)) ∧ Below w.heap.size w w' := by
  have hm := (slice_len h).2
  unfold maxLen at hm
  unfold validRels
  obtain ⟨n, hn⟩ : ∃ n : Nat, l.length = n := ⟨_, rfl⟩
  have Hr : Hid (∀ w' : World, Below w.heap.size w w' → ∀ j (hj : j < l.length), _) := fun w' hb j hj => at_Relation (Cod.ok_below h hb) j hj
  have Hn := Lib.hid hn
  rw [hn] at hm ⊢
  clear hn h
  generalize hR : ascFrom none l = R
  have HR : Hid (ascFrom (prevOf l 0) (l.drop 0) = R) := hR
  clear hR
  go_enter Tryd.func72, Tryd.ntmps72
  go_wp2
  go_loopw [3] (fun iv wr => ∃ k : Nat, k ≤ n ∧ iv = .int .i64 k ∧ Hid (ascFrom (prevOf l k) (l.drop k) = R) ∧ Below w.heap.size w wr) (fun iv _ => n - (intOf iv).toNat)
  case atStart => exact ⟨0, by omega, by go_num, HR, Below.refl _ _⟩
  case round =>
    clear HR
    obtain ⟨k, hk, rfl, Hq, hb⟩ := hrel
    by_cases hlt : k < n
    · have hkl : k < l.length := by rw [Hn.out]; exact hlt
      have Hst := Lib.hid (Hq.out.symm.trans (ascFrom_step l k hkl))
      obtain ⟨b, off, rfl, hbB, c0, c1, c2, hx⟩ := Hr.out _ hb k hkl
      have Hc : Hid (∀ ww, Below w.heap.size w ww → Calls Tryd.prog 115 #[.agg #[.string l[k].name, .int .i64 l[k].arity, .int .i64 l[k].key]] ww fun e w' => e = .returned (.bool (validRel l[k])) ∧ Below ww.heap.size ww w') :=
        fun ww hw2 => by obtain ⟨_, _, _, _, _, _, _, hx⟩ := Hr.out ww hw2 k hkl; exact specIsValidRelation_c (cRel.keep hx (fun _ _ => rfl) hw2.size)
      have C0 := grow_cell c0
      have C1 := grow_cell c1
      have C2 := grow_cell c2
      clear hx Hq
      rcases Nat.eq_zero_or_pos k with hk0 | hk0
      · have hg : decide ((0 : Int) < (k : Int)) = false := decide_eq_false (by omega)
        have hg2 : decide (0 < k) = false := decide_eq_false (by omega)
        have hp : okPrev (prevOf l k) l[k].name = true := by subst hk0; rfl
        rw [hp, Bool.true_and] at Hst
        clear hp hk0
        generalize validRel l[k] = v at *
        generalize l[k] = r at *
        cases v with
        | true =>
          go_wp2_with fail
          refine wp_region_grow (by kernel_rfl) (by kernel_rfl) ?_
          repeat (go_big_quiet_step ((go_at_call 115; exact Calls.grow fun ww h => Hc.out ww (hb.trans (h.mono hb.size)))))
          refine wpQuiet_nil ?_
          rintro _ ⟨nq, rfl⟩
          go_wp2
          go_roundw
          case rel => exact ⟨k + 1, by omega, by go_num, by have h := Hst.out; rw [Bool.true_and] at h; exact h.symm, hb.trans (nq.below.mono hb.size)⟩
          case measure => simp [intOf]; omega
        | false =>
          have hR : R = false := by have h := Hst.out; rw [Bool.false_and] at h; exact h
          go_wp2_with fail
          refine wp_region_grow (by kernel_rfl) (by kernel_rfl) ?_
          repeat (go_big_quiet_step ((go_at_call 115; exact Calls.grow fun ww h => Hc.out ww (hb.trans (h.mono hb.size)))))
          refine wpQuiet_nil ?_
          rintro _ ⟨nq, rfl⟩
          go_wp2
          go_ret
          exact ⟨by rw [hR]; rfl, hb.trans (nq.below.mono hb.size)⟩
      · have hg : decide ((0 : Int) < (k : Int)) = true := decide_eq_true (by omega)
        have hg2 : decide (0 < k) = true := decide_eq_true (by omega)
        obtain ⟨j, hj⟩ : ∃ j, k = j + 1 := ⟨k - 1, by omega⟩
        have hjl : j < l.length := by omega
        have hp : okPrev (prevOf l k) l[k].name = Op.bytesLess l[j].name.toList l[k].name.toList := by subst hj; exact okPrev_succ l j hjl _
        rw [hp] at Hst
        clear hp hk0
        obtain ⟨b', off', e', hbB', p0, p1, p2, hxp⟩ := Hr.out _ hb j hjl
        obtain ⟨rfl, rfl⟩ : b = b' ∧ off = off' := by simp at e'; exact e'
        have hwj : wrap64 ((k : Int) - 1) = (j : Int) := by rw [IntWalk.wrap64_in _ ⟨by omega, by omega⟩]; omega
        have hkj : (k : Int) - 1 = (j : Int) := by omega
        have D0 := grow_cell p0
        have hjn : (j : Int) < n := by omega
        have Hj := Lib.hid hj
        clear hj e' hxp hbB' p0 p1 p2
        generalize validRel l[k] = v at *
        generalize l[j] = q at *
        generalize l[k] = r at *
        generalize hlt' : Op.bytesLess q.name.toList r.name.toList = z at *
        cases v with
        | true =>
          rw [Bool.true_and] at Hst
          cases z with
          | true =>
            go_wp2_with fail
            refine wp_region_grow (by kernel_rfl) (by kernel_rfl) ?_
            repeat (go_big_quiet_step ((go_at_call 115; exact Calls.grow fun ww h => Hc.out ww (hb.trans (h.mono hb.size)))))
            refine wpQuiet_nil ?_
            rintro _ ⟨nq, rfl⟩
            go_wp2
            go_roundw
            case rel => exact ⟨k + 1, by omega, by go_num, by have h := Hst.out; rw [Bool.true_and] at h; exact h.symm, hb.trans (nq.below.mono hb.size)⟩
            case measure => simp [intOf]; omega
          | false =>
            have hR : R = false := by have h := Hst.out; rw [Bool.false_and] at h; exact h
            go_wp2_with fail
            refine wp_region_grow (by kernel_rfl) (by kernel_rfl) ?_
            repeat (go_big_quiet_step ((go_at_call 115; exact Calls.grow fun ww h => Hc.out ww (hb.trans (h.mono hb.size)))))
            refine wpQuiet_nil ?_
            rintro _ ⟨nq, rfl⟩
            go_wp2
            go_ret
            exact ⟨by rw [hR]; rfl, hb.trans (nq.below.mono hb.size)⟩
        | false =>
          have hR : R = false := by have h := Hst.out; rw [Bool.false_and] at h; exact h
          go_wp2_with fail
          refine wp_region_grow (by kernel_rfl) (by kernel_rfl) ?_
          repeat (go_big_quiet_step ((go_at_call 115; exact Calls.grow fun ww h => Hc.out ww (hb.trans (h.mono hb.size)))))
          refine wpQuiet_nil ?_
          rintro _ ⟨nq, rfl⟩
          go_wp2
          go_ret
          exact ⟨by rw [hR]; rfl, hb.trans (nq.below.mono hb.size)⟩
    · obtain rfl : k = n := by omega
      have hR : R = true := by
        have := Hq.out
        rw [List.drop_eq_nil_of_le (by rw [Hn.out]; exact Nat.le_refl _)] at this
        exact this.symm
      by_cases h4 : (k : Int) ≤ 4
      · go_wp2
        go_ret
        exact ⟨by show Ending.returned (.bool _) = _; rw [hR]; simp; omega, hb⟩
      · go_wp2
        go_ret
        exact ⟨by show Ending.returned (.bool _) = _; simp; omega, hb⟩

/-- The place of the first relation of a name, counted from i, or -1. -/
def idxFrom : List Rel → ByteArray → Int → Int
  | [], _, _ => -1
  | r :: l, s, i => if r.name = s then i else idxFrom l s (i + 1)
def relIdx (l : List Rel) (s : ByteArray) : Int := idxFrom l s 0
end Go.Proofs.YtgipcnofonejcaaDoor
namespace Go.Proofs.YtgipcnofonejcaaDoor
open Go.RowKit
set_option linter.unusedVariables false
set_option maxRecDepth 100000
/-- Two lists of numbers compared: by the first place at which they differ, then by their lengths. -/
def cmpL : List Int → List Int → Int
  | [], [] => 0
  | [], _ :: _ => -1
  | _ :: _, [] => 1
  | a :: l, b :: m => if a < b then -1 else if b < a then 1 else cmpL l m
theorem cmpL_step (l m : List Int) (k : Nat) (h1 : k < l.length) (h2 : k < m.length) : cmpL (l.drop k) (m.drop k) = if l[k] < m[k] then -1 else if m[k] < l[k] then 1 else cmpL (l.drop (k + 1)) (m.drop (k + 1)) := by
  rw [List.drop_eq_getElem_cons h1, List.drop_eq_getElem_cons h2]; rfl
theorem cmpL_end (l m : List Int) (k : Nat) (h1 : k ≤ l.length) (h2 : k ≤ m.length) (h : ¬ (k < l.length ∧ k < m.length)) : cmpL (l.drop k) (m.drop k) = if l.length < m.length then -1 else if m.length < l.length then 1 else 0 := by
  by_cases hl : k < l.length
  · have hm : k = m.length := by omega
    subst hm
    rw [List.drop_eq_getElem_cons hl, List.drop_length]
    rw [if_neg (by omega), if_pos hl]; rfl
  · have hl2 : k = l.length := by omega
    subst hl2
    rw [List.drop_length]
    by_cases hm : l.length < m.length
    · rw [List.drop_eq_getElem_cons hm, if_pos hm]; rfl
    · have : m.drop l.length = [] := List.drop_eq_nil_of_le (by omega)
      rw [this, if_neg hm, if_neg (by omega)]; rfl
set_option maxHeartbeats 800000 in
theorem specl3Ints_c {a a' : Option Addr} {cap cap' : Nat} {l m : List Int} {w : World} (h : At (cSlice cInt) w l [.slice a l.length cap]) (h' : At (cSlice cInt) w m [.slice a' m.length cap']) :
    Calls Tryd.prog 114 #[.slice a l.length cap, .slice a' m.length cap'] w fun e w' => e = .returned (.int .i64 (cmpL l m)) ∧ Below w.heap.size w w' := by
  have hm := (slice_len h).2
  have hm' := (slice_len h').2
  unfold maxLen at hm hm'
  have Hr : Hid (∀ w' : World, Below w.heap.size w w' → ∀ j (hj : j < l.length), _) := fun w' hb j hj => ints_at (Cod.ok_below h hb) j hj
  have Hr' : Hid (∀ w' : World, Below w.heap.size w w' → ∀ j (hj : j < m.length), _) := fun w' hb j hj => ints_at (Cod.ok_below h' hb) j hj
  clear h h'
  obtain ⟨n, hn⟩ : ∃ n : Nat, l.length = n := ⟨_, rfl⟩
  obtain ⟨n', hn'⟩ : ∃ n : Nat, m.length = n := ⟨_, rfl⟩
  have Hn := Lib.hid hn
  have Hn' := Lib.hid hn'
  rw [hn] at hm ⊢
  rw [hn'] at hm' ⊢
  clear hn hn'
  generalize hR : cmpL l m = R
  have HR : Hid (cmpL (l.drop 0) (m.drop 0) = R) := hR
  clear hR
  go_enter Tryd.func114, Tryd.ntmps114
  go_wp2
  go_loopw [5] (fun iv wr => ∃ k : Nat, k ≤ n ∧ k ≤ n' ∧ iv = .int .i64 k ∧ Hid (cmpL (l.drop k) (m.drop k) = R) ∧ Below w.heap.size w wr) (fun iv _ => n - (intOf iv).toNat)
  case atStart => exact ⟨0, by omega, by omega, by go_num, HR, Below.refl _ _⟩
  case round =>
    clear HR
    obtain ⟨k, hk, hk', rfl, Hq, hb⟩ := hrel
    by_cases hlt : k < n ∧ k < n'
    · obtain ⟨h1, h2⟩ := hlt
      have hkl : k < l.length := by rw [Hn.out]; exact h1
      have hkm : k < m.length := by rw [Hn'.out]; exact h2
      have Hst := Lib.hid (Hq.out.symm.trans (cmpL_step l m k hkl hkm))
      obtain ⟨b, off, rfl, hbB, c0⟩ := Hr.out _ hb k hkl
      obtain ⟨b', off', rfl, hbB', c0'⟩ := Hr'.out _ hb k hkm
      have hg : decide ((k : Int) < (n : Int)) = true := decide_eq_true (by omega)
      have hg' : decide ((k : Int) < (n' : Int)) = true := decide_eq_true (by omega)
      clear Hq
      generalize l[k] = r at *
      generalize m[k] = r' at *
      by_cases hd : r < r'
      · have hR : R = -1 := by have := Hst.out; rw [if_pos hd] at this; exact this
        go_wp2
        go_quiet (fail)
        go_wp2
        go_ret
        exact ⟨by rw [hR]; rfl, Below.drewN' hb _⟩
      · by_cases hd2 : r' < r
        · have hR : R = 1 := by have := Hst.out; rw [if_neg hd, if_pos hd2] at this; exact this
          go_wp2
          go_quiet (fail)
          go_wp2
          go_quiet (fail)
          go_wp2
          go_ret
          exact ⟨by rw [hR]; rfl, Below.drewN' (Below.drewN' hb _) _⟩
        · have Hs2 : Hid (cmpL (l.drop (k + 1)) (m.drop (k + 1)) = R) := by have := Hst.out; rw [if_neg hd, if_neg hd2] at this; exact this.symm
          go_wp2
          go_quiet (fail)
          go_wp2
          go_quiet (fail)
          go_wp2
          go_roundw
          case rel => exact ⟨k + 1, by omega, by omega, by go_num, Hs2, Below.drewN' hb _⟩
          case measure => simp [intOf]; omega
    · have he := (cmpL_end l m k (by rw [Hn.out]; exact hk) (by rw [Hn'.out]; exact hk') (by rw [Hn.out, Hn'.out]; exact hlt)).symm.trans Hq.out
      rw [Hn.out, Hn'.out] at he
      have He := Lib.hid he
      clear he Hq
      by_cases h1 : k < n
      · have h2 : k = n' := by omega
        have hR : R = 1 := by have := He.out; rw [if_neg (by omega), if_pos (by omega)] at this; exact this.symm
        go_wp2
        go_ret
        exact ⟨by rw [hR]; rfl, hb⟩
      · have h2 : k = n := by omega
        by_cases h3 : n < n'
        · have hR : R = -1 := by have := He.out; rw [if_pos (by omega)] at this; exact this.symm
          go_wp2
          go_ret
          exact ⟨by rw [hR]; rfl, hb⟩
        · have hR : R = 0 := by have := He.out; rw [if_neg (by omega), if_neg (by omega)] at this; exact this.symm
          go_wp2
          go_ret
          exact ⟨by rw [hR]; rfl, hb⟩

/-- Two facts compared: by their relations' places, then by their values. -/
def cmpF (x y : Fct) : Int := if x.rel < y.rel then -1 else if y.rel < x.rel then 1 else cmpL x.vals y.vals
theorem specCompareFacts_c {a1 a1' : Option Addr} {cap1 cap1' : Nat} {x y : Fct} {w : World} (h : At cFct w x [.int .i64 x.rel, .slice a1 x.vals.length cap1]) (h' : At cFct w y [.int .i64 y.rel, .slice a1' y.vals.length cap1']) :
    Calls Tryd.prog 71 #[.agg #[.int .i64 x.rel, .slice a1 x.vals.length cap1], .agg #[.int .i64 y.rel, .slice a1' y.vals.length cap1']] w fun e w' => e = .returned (.int .i64 (cmpF x y)) ∧ Below w.heap.size w w' := by
  have h1 := (cFct_inv h).1
  have h2 := (cFct_inv h').1
  have H1 : Hid (∀ ww, Below w.heap.size w ww → Calls Tryd.prog 114 #[.slice a1 x.vals.length cap1, .slice a1' y.vals.length cap1'] ww fun e w' => e = .returned (.int .i64 (cmpL x.vals y.vals)) ∧ Below ww.heap.size ww w') :=
    fun ww hb => specl3Ints_c (At.below (c := cSlice cInt) h1 hb (Nat.le_refl _)) (At.below (c := cSlice cInt) h2 hb (Nat.le_refl _))
  clear h h1 h' h2
  unfold cmpF
  obtain ⟨r, l⟩ := x
  obtain ⟨r', l'⟩ := y
  simp only at *
  generalize cmpL l l' = z at *
  by_cases hr : r < r'
  · rw [if_pos hr]
    go_enter Tryd.func71, Tryd.ntmps71
    go_wp2
    go_ret
    exact ⟨rfl, by go_grown⟩
  · by_cases hr2 : r' < r
    · rw [if_neg hr, if_pos hr2]
      go_enter Tryd.func71, Tryd.ntmps71
      go_wp2
      go_ret
      exact ⟨rfl, by go_grown⟩
    · rw [if_neg hr, if_neg hr2]
      go_enter Tryd.func71, Tryd.ntmps71
      go_wp2_with fail
      refine (H1.out _ ?hb).mono ?_
      case hb => go_grown
      rintro e w1 ⟨rfl, hb1⟩
      have hbb : Below w.heap.size w w1 := Below.trans (by go_grown) (hb1.mono (by simp; try omega))
      go_wp2
      go_ret
      exact ⟨rfl, hbb⟩

/-- Every number of a list lies between 0 and 9. -/
def allIn (l : List Int) : Bool := l.all fun x => inB x 0 9
theorem allIn_step (l : List Int) (k : Nat) (hk : k < l.length) : allIn (l.drop k) = (inB l[k] 0 9 && allIn (l.drop (k + 1))) := by
  rw [List.drop_eq_getElem_cons hk]; rfl
/-- The arity of the relation at a place. -/
def arityAt (l : List Rel) (r : Int) : Int := match l[r.toNat]? with | some q => q.arity | none => 0
/-- A valid fact. -/
def validFact (l : List Rel) (x : Fct) : Bool := validRels l && (inB x.rel 0 ((l.length : Int) - 1) && (decide ((x.vals.length : Int) = arityAt l x.rel) && allIn x.vals))
set_option maxHeartbeats 1600000 in
theorem specIsValidFact_c {a0 a1 : Option Addr} {cap0 cap1 : Nat} {l : List Rel} {x : Fct} {w : World} (h : At (cSlice cRel) w l [.slice a0 l.length cap0]) (h' : At cFct w x [.int .i64 x.rel, .slice a1 x.vals.length cap1]) :
    Calls Tryd.prog 70 #[.slice a0 l.length cap0, .agg #[.int .i64 x.rel, .slice a1 x.vals.length cap1]] w fun e w' => e = .returned (.bool (validFact l x)) ∧ Below w.heap.size w w' := by
  have hm := (slice_len h).2
  have h1 := (cFct_inv h').1
  have hm1 := (slice_len h1).2
  unfold maxLen at hm hm1
  have Hr : Hid (∀ w' : World, Below w.heap.size w w' → ∀ j (hj : j < l.length), _) := fun w' hb j hj => at_Relation (Cod.ok_below h hb) j hj
  have Hi : Hid (∀ w' : World, Below w.heap.size w w' → ∀ j (hj : j < x.vals.length), _) := fun w' hb j hj => ints_at (Cod.ok_below h1 hb) j hj
  have Hc : Hid (∀ ww, Below w.heap.size w ww → Calls Tryd.prog 72 #[.slice a0 l.length cap0] ww fun e w' => e = .returned (.bool (validRels l)) ∧ Below ww.heap.size ww w') :=
    fun ww hb => specAreValidRelations_c (At.below h hb (Nat.le_refl _))
  clear h h' h1
  unfold validFact
  obtain ⟨n, hn⟩ : ∃ n : Nat, l.length = n := ⟨_, rfl⟩
  have Hn := Lib.hid hn
  rw [hn] at hm Hc ⊢
  clear hn
  obtain ⟨r, v⟩ := x
  simp only at *
  obtain ⟨nv, hnv⟩ : ∃ n : Nat, v.length = n := ⟨_, rfl⟩
  have Hnv := Lib.hid hnv
  rw [hnv] at hm1 ⊢
  clear hnv
  have hwn : wrap64 ((n : Int) - 1) = (n : Int) - 1 := IntWalk.wrap64_in _ ⟨by omega, by omega⟩
  generalize validRels l = V at *
  cases V with
  | false =>
    rw [Bool.false_and]
    go_enter Tryd.func70, Tryd.ntmps70
    go_wp2_with fail
    obtain ⟨wx, hwx⟩ : ∃ wx, wx = w.alloc (Obj.cells #[.int .i64 r, .slice a1 nv cap1] 102) := ⟨_, rfl⟩
    rw [← hwx]
    have hb0 : Below w.heap.size w wx := by rw [hwx]; go_grown
    have P0 := grow_cell (w := wx) (p := ⟨w.heap.size, 0, none⟩) (v := .int .i64 r) (by rw [hwx]; go_simp)
    have P1 := grow_cell (w := wx) (p := ⟨w.heap.size, 1, none⟩) (v := .slice a1 nv cap1) (by rw [hwx]; go_simp)
    clear hwx
    refine wp_region_grow (by kernel_rfl) (by kernel_rfl) ?_
    repeat (go_big_quiet_step ((go_at_call 72; exact Calls.grow fun ww h => Hc.out ww (hb0.trans (h.mono hb0.size)))))
    refine wpQuiet_nil ?_
    rintro _ ⟨nq, rfl⟩
    have hbb : Below w.heap.size w nq.W := hb0.trans (nq.below.mono hb0.size)
    go_wp2
    go_ret
    exact ⟨rfl, hbb⟩
  | true =>
    rw [Bool.true_and]
    have Hl : Hid (∀ ww, Calls Tryd.prog 99 #[.int .i64 r, .int .i64 0, .int .i64 ((n : Int) - 1)] ww fun e w' => e = .returned (.bool (inB r 0 ((n : Int) - 1))) ∧ Below ww.heap.size ww w') :=
      fun ww => (l1In_any _ _ _ _).mono fun e w' h => ⟨h.1, h.2 ▸ Below.refl _ _⟩
    have hI : inB r 0 ((n : Int) - 1) = true → 0 ≤ r ∧ r ≤ (n : Int) - 1 := by unfold inB; simp
    generalize inB r 0 ((n : Int) - 1) = I at *
    cases I with
    | false =>
      rw [Bool.false_and]
      clear hI
      go_enter Tryd.func70, Tryd.ntmps70
      go_wp2_with fail
      obtain ⟨wx, hwx⟩ : ∃ wx, wx = w.alloc (Obj.cells #[.int .i64 r, .slice a1 nv cap1] 102) := ⟨_, rfl⟩
      rw [← hwx]
      have hb0 : Below w.heap.size w wx := by rw [hwx]; go_grown
      have P0 := grow_cell (w := wx) (p := ⟨w.heap.size, 0, none⟩) (v := .int .i64 r) (by rw [hwx]; go_simp)
      have P1 := grow_cell (w := wx) (p := ⟨w.heap.size, 1, none⟩) (v := .slice a1 nv cap1) (by rw [hwx]; go_simp)
      clear hwx
      refine wp_region_grow (by kernel_rfl) (by kernel_rfl) ?_
      repeat (go_big_quiet_step (first | (go_at_call 72; exact Calls.grow fun ww h => Hc.out ww (hb0.trans (h.mono hb0.size))) | (go_at_call 99; exact Calls.grow fun ww h => Hl.out ww)))
      refine wpQuiet_nil ?_
      rintro _ ⟨nq, rfl⟩
      have hbb : Below w.heap.size w nq.W := hb0.trans (nq.below.mono hb0.size)
      go_wp2
      go_ret
      exact ⟨rfl, hbb⟩
    | true =>
      rw [Bool.true_and]
      obtain ⟨hr0, hr1⟩ := hI rfl
      clear hI
      obtain ⟨k, rfl⟩ := Int.eq_ofNat_of_zero_le hr0
      have hk : k < n := by omega
      have hkl : k < l.length := by rw [Hn.out]; exact hk
      have har : arityAt l (k : Int) = l[k].arity := by unfold arityAt; simp [hkl]
      rw [har]
      clear har
      by_cases hq : (nv : Int) = l[k].arity
      · rw [decide_eq_true hq, Bool.true_and]
        generalize hR : allIn v = R
        have HR : Hid (allIn (v.drop 0) = R) := hR
        clear hR
        go_enter Tryd.func70, Tryd.ntmps70
        go_wp2_with fail
        obtain ⟨wx, hwx⟩ : ∃ wx, wx = w.alloc (Obj.cells #[.int .i64 (k : Int), .slice a1 nv cap1] 102) := ⟨_, rfl⟩
        rw [← hwx]
        have hb0 : Below w.heap.size w wx := by rw [hwx]; go_grown
        have P0 := grow_cell (w := wx) (p := ⟨w.heap.size, 0, none⟩) (v := .int .i64 (k : Int)) (by rw [hwx]; go_simp)
        have P1 := grow_cell (w := wx) (p := ⟨w.heap.size, 1, none⟩) (v := .slice a1 nv cap1) (by rw [hwx]; go_simp)
        clear hwx
        obtain ⟨b, off, rfl, hbB, c0, c1, c2, hx⟩ := Hr.out _ hb0 k hkl
        have C1 := grow_cell c1
        clear c0 c1 c2 hx
        generalize l[k] = q at *
        have hne : ((nv : Int) != q.arity) = false := by simp [hq]
        clear hq
        refine wp_region_grow (by kernel_rfl) (by kernel_rfl) ?_
        repeat (go_big_quiet_step (first | (go_at_call 72; exact Calls.grow fun ww h => Hc.out ww (hb0.trans (h.mono hb0.size))) | (go_at_call 99; exact Calls.grow fun ww h => Hl.out ww)))
        refine wpQuiet_nil ?_
        rintro _ ⟨nq, rfl⟩
        have hbb : Below w.heap.size w nq.W := hb0.trans (nq.below.mono hb0.size)
        have p1 := P1 nq
        have hlt := World.block_lt_of_cell? nq.W _ p1
        go_wp2
        go_loopw [5] (fun iv wr => ∃ k : Nat, k ≤ nv ∧ iv = .int .i64 k ∧ Hid (allIn (v.drop k) = R) ∧ Below nq.W.heap.size nq.W wr) (fun iv _ => nv - (intOf iv).toNat)
        case atStart => exact ⟨0, by omega, by go_num, HR, Below.refl _ _⟩
        case round =>
          clear HR
          obtain ⟨j, hj, rfl, Hq, hb⟩ := hrel
          have r1 := (hb.cell (p := ⟨w.heap.size, 1, none⟩) hlt).trans p1
          have hbw : Below w.heap.size w wr := hbb.trans (hb.mono hbb.size)
          by_cases hjn : j < nv
          · have hjl : j < v.length := by rw [Hnv.out]; exact hjn
            obtain ⟨b', off', rfl, hbB', d0⟩ := Hi.out _ hbw j hjl
            have Hst := Lib.hid (Hq.out.symm.trans (allIn_step v j hjl))
            clear Hq
            generalize v[j] = z at *
            have Hz : Hid (∀ ww, Calls Tryd.prog 99 #[.int .i64 z, .int .i64 0, .int .i64 9] ww fun e w' => e = .returned (.bool (inB z 0 9)) ∧ ww = w') := fun ww => l1In_any _ _ _ _
            generalize inB z 0 9 = J at *
            cases J with
            | true =>
              rw [Bool.true_and] at Hst
              go_wp2_with (go_at_call 99; refine (Hz.out _).mono ?_; rintro e w' ⟨rfl, rfl⟩)
              go_roundw
              case rel => exact ⟨j + 1, by omega, by go_num, Hst.out.symm, hb⟩
              case measure => simp [intOf]; omega
            | false =>
              have hR : R = false := by have := Hst.out; rw [Bool.false_and] at this; exact this
              go_wp2_with (go_at_call 99; refine (Hz.out _).mono ?_; rintro e w' ⟨rfl, rfl⟩)
              go_ret
              exact ⟨by rw [hR]; rfl, hbw⟩
          · obtain rfl : j = nv := by omega
            have hR : R = true := by
              have := Hq.out
              rw [List.drop_eq_nil_of_le (by rw [Hnv.out]; exact Nat.le_refl _)] at this
              exact this.symm
            go_wp2
            go_ret
            exact ⟨by rw [hR]; rfl, hbw⟩
      · rw [decide_eq_false hq, Bool.false_and]
        go_enter Tryd.func70, Tryd.ntmps70
        go_wp2_with fail
        obtain ⟨wx, hwx⟩ : ∃ wx, wx = w.alloc (Obj.cells #[.int .i64 (k : Int), .slice a1 nv cap1] 102) := ⟨_, rfl⟩
        rw [← hwx]
        have hb0 : Below w.heap.size w wx := by rw [hwx]; go_grown
        have P0 := grow_cell (w := wx) (p := ⟨w.heap.size, 0, none⟩) (v := .int .i64 (k : Int)) (by rw [hwx]; go_simp)
        have P1 := grow_cell (w := wx) (p := ⟨w.heap.size, 1, none⟩) (v := .slice a1 nv cap1) (by rw [hwx]; go_simp)
        clear hwx
        obtain ⟨b, off, rfl, hbB, c0, c1, c2, hx⟩ := Hr.out _ hb0 k hkl
        have C1 := grow_cell c1
        clear c0 c1 c2 hx
        generalize l[k] = q at *
        have hne : ((nv : Int) != q.arity) = true := by simp [hq]
        clear hq
        refine wp_region_grow (by kernel_rfl) (by kernel_rfl) ?_
        repeat (go_big_quiet_step (first | (go_at_call 72; exact Calls.grow fun ww h => Hc.out ww (hb0.trans (h.mono hb0.size))) | (go_at_call 99; exact Calls.grow fun ww h => Hl.out ww)))
        refine wpQuiet_nil ?_
        rintro _ ⟨nq, rfl⟩
        have hbb : Below w.heap.size w nq.W := hb0.trans (nq.below.mono hb0.size)
        go_wp2
        go_ret
        exact ⟨rfl, hbb⟩
end Go.Proofs.YtgipcnofonejcaaDoor

/- Chapter 2: the program's functions on relations. -/
namespace Go.Proofs.YtgipcnofonejcaaDoor
open Go.RowKit
set_option linter.unusedVariables false
set_option maxRecDepth 100000

/-! ### isLetter, IsValidRelation -/
set_option maxHeartbeats 800000 in
theorem isLetter_any {n : ByteArray} (hs : n.size ≤ 9223372036854775807) (w : World) :
    Calls Tryd.prog 139 #[.string n] w fun e w' => e = .returned (.bool (validName n)) ∧ w = w' := by
  by_cases h1 : n.size = 1
  · have hn := validName_one h1
    have hlt : 0 < n.size := by omega
    have hb := n[0].toNat_lt
    generalize hu : n[0] = u at *
    by_cases h2 : (97 : Int) ≤ (u.toNat : Int)
    · by_cases h3 : (u.toNat : Int) ≤ 122
      · have hn2 : validName n = true := by rw [hn]; simp; omega
        rw [hn2]
        clear hn hn2
        go_enter Tryd.func139, Tryd.ntmps139
        go_wp2
        go_ret
        exact ⟨rfl, rfl⟩
      · have hn2 : validName n = false := by rw [hn]; simp; omega
        rw [hn2]
        clear hn hn2
        go_enter Tryd.func139, Tryd.ntmps139
        go_wp2
        go_ret
        exact ⟨rfl, rfl⟩
    · have hn2 : validName n = false := by rw [hn]; simp; omega
      rw [hn2]
      clear hn hn2
      go_enter Tryd.func139, Tryd.ntmps139
      go_wp2
      go_ret
      exact ⟨rfl, rfl⟩
  · rw [validName_not h1]
    have h2 : ((n.size : Int) == 1) = false := by simp; omega
    go_enter Tryd.func139, Tryd.ntmps139
    go_wp2
    go_ret
    exact ⟨rfl, rfl⟩
set_option maxHeartbeats 1600000 in
theorem implIsValidRelation_c {r : Rel} {w : World} (h : At cRel w r [.string r.name, .int .i64 r.arity, .int .i64 r.key]) :
    Calls Tryd.prog 119 #[.agg #[.string r.name, .int .i64 r.arity, .int .i64 r.key]] w fun e w' => e = .returned (.bool (validRel r)) ∧ Below w.heap.size w w' := by
  have hr := (cRel_inv h).2.1
  clear h
  obtain ⟨n, a, k⟩ := r
  unfold maxLen at hr
  simp only [validRel, inB] at *
  have H := fun ww => isLetter_any (n := n) (by omega) ww
  generalize validName n = v at *
  cases v with
  | false =>
    rw [Bool.false_and]
    go_enter Tryd.func119, Tryd.ntmps119
    go_wp2_with (go_at_call 139; refine (H _).mono ?_; rintro e w' ⟨rfl, rfl⟩)
    go_ret
    exact ⟨rfl, by go_grown⟩
  | true =>
    rw [Bool.true_and]
    by_cases h1 : (1 : Int) ≤ a <;> by_cases h2 : a ≤ 3 <;> by_cases h3 : (0 : Int) ≤ k
    all_goals try (exfalso; omega)
    all_goals
      go_enter Tryd.func119, Tryd.ntmps119
      go_wp2_with (go_at_call 139; refine (H _).mono ?_; rintro e w' ⟨rfl, rfl⟩)
    all_goals
      go_ret
      exact ⟨by first | (simp [h1, h2, h3]; done) | (simp; omega), by go_grown⟩

/-! ### names in ascending order -/
/-- Names ascending, behind a name. -/
def ascN : Option ByteArray → List Rel → Bool
  | _, [] => true
  | p, r :: l => okPrev p r.name && ascN (some r.name) l
theorem ascN_step (l : List Rel) (k : Nat) (hk : k < l.length) : ascN (prevOf l k) (l.drop k) = (okPrev (prevOf l k) l[k].name && ascN (prevOf l (k + 1)) (l.drop (k + 1))) := by
  rw [List.drop_eq_getElem_cons hk]
  simp [ascN, prevOf, hk]
theorem ascN_start (l : List Rel) : ascN none l = ascN (prevOf l 1) (l.drop 1) := by
  cases l with
  | nil => rfl
  | cons r l => simp [ascN, prevOf, okPrev]
theorem ascFrom_split : ∀ (l : List Rel) (p : Option ByteArray), ascFrom p l = (l.all validRel && ascN p l)
  | [], _ => rfl
  | r :: l, p => by
    simp only [ascFrom, ascN, List.all_cons, ascFrom_split l]
    cases validRel r <;> cases okPrev p r.name <;> cases l.all validRel <;> simp
theorem cmpB_list : ∀ (x y : List UInt8), decide (Lib.compareBytes x y ≥ 0) = !Op.bytesLess x y
  | [], [] => rfl
  | [], _ :: _ => rfl
  | _ :: _, [] => rfl
  | a :: x, b :: y => by
    rw [Lib.compareBytes, Op.bytesLess]
    by_cases h : a < b
    · simp [h]
    · by_cases h2 : b < a
      · have h3 : (a == b) = false := by
          simp only [beq_eq_false_iff_ne, ne_eq]
          intro e; subst e; exact h h2
        rw [if_neg h, if_pos h2, h3, decide_eq_false h]; rfl
      · have h3 : a = b := by
          apply UInt8.toNat_inj.mp
          have h4 : ¬ a.toNat < b.toNat := h
          have h5 : ¬ b.toNat < a.toNat := h2
          omega
        subst h3
        rw [if_neg h, if_neg h, cmpB_list x y, decide_eq_false h]; simp
theorem cmpB_lt (a b : ByteArray) : decide (Lib.compareBytes a.data.toList b.data.toList ≥ 0) = !Op.bytesLess a.toList b.toList := by
  rw [Lib.toList_data, Lib.toList_data]; exact cmpB_list _ _
theorem compareNames_c {n m : ByteArray} {a k a' k' : Int} (w : World) :
    Calls Tryd.prog 121 #[.agg #[.string n, .int .i64 a, .int .i64 k], .agg #[.string m, .int .i64 a', .int .i64 k']] w fun e w' => e = .returned (.int .i64 (Lib.compareBytes n.data.toList m.data.toList)) ∧ Below w.heap.size w w' := by
  generalize hz : Lib.compareBytes n.data.toList m.data.toList = z
  have H : ∀ ww, Calls Tryd.prog 140 #[.string n, .string m] ww fun e w' => e = .returned (.int .i64 z) ∧ w' = ww := fun ww => hz ▸ Tryd.strings_Compare n m ww
  clear hz
  go_enter Tryd.func121, Tryd.ntmps121
  go_wp2_with (go_at_call 140; refine (H _).mono ?_; rintro e w' ⟨rfl, rfl⟩)
  go_ret
  exact ⟨rfl, by go_grown⟩

set_option maxHeartbeats 1600000 in
theorem ascNames_c {a0 : Option Addr} {cap0 : Nat} {l : List Rel} {w : World} (h : At (cSlice cRel) w l [.slice a0 l.length cap0]) :
    Calls Tryd.prog 120 #[.slice a0 l.length cap0, .func (.func 121) #[] #[]] w fun e w' => e = .returned (.bool (ascN none l)) ∧ Below w.heap.size w w' := by
  have hm := (slice_len h).2
  unfold maxLen at hm
  obtain ⟨n, hn⟩ : ∃ n : Nat, l.length = n := ⟨_, rfl⟩
  have Hr : Hid (∀ w' : World, Below w.heap.size w w' → ∀ j (hj : j < l.length), _) := fun w' hb j hj => at_Relation (Cod.ok_below h hb) j hj
  have Hn := Lib.hid hn
  rw [hn] at hm ⊢
  clear hn h
  generalize hR : ascN none l = R
  rw [ascN_start] at hR
  have HR : Hid (ascN (prevOf l 1) (l.drop 1) = R) := hR
  clear hR
  go_enter Tryd.func120, Tryd.ntmps120
  go_wp2
  go_loopw [5] (fun iv wr => ∃ k : Nat, (k ≤ n ∨ k = 1) ∧ 1 ≤ k ∧ iv = .int .i64 k ∧ Hid (ascN (prevOf l k) (l.drop k) = R) ∧ Below w.heap.size w wr) (fun iv _ => n - (intOf iv).toNat)
  case atStart => exact ⟨1, by omega, by omega, by go_num, HR, Below.refl _ _⟩
  case round =>
    clear HR
    obtain ⟨k, hk, hk1, rfl, Hq, hb⟩ := hrel
    by_cases hlt : k < n
    · have hkl : k < l.length := by rw [Hn.out]; exact hlt
      obtain ⟨j, hj⟩ : ∃ j, k = j + 1 := ⟨k - 1, by omega⟩
      have hjl : j < l.length := by omega
      have hp : okPrev (prevOf l k) l[k].name = Op.bytesLess l[j].name.toList l[k].name.toList := by subst hj; exact okPrev_succ l j hjl _
      have Hst := Lib.hid (Hq.out.symm.trans (ascN_step l k hkl))
      rw [hp] at Hst
      obtain ⟨b, off, rfl, hbB, c0, c1, c2, hx⟩ := Hr.out _ hb k hkl
      obtain ⟨b', off', e', hbB', p0, p1, p2, hxp⟩ := Hr.out _ hb j hjl
      obtain ⟨rfl, rfl⟩ : b = b' ∧ off = off' := by simp at e'; exact e'
      have C0 := grow_cell c0
      have C1 := grow_cell c1
      have C2 := grow_cell c2
      have D0 := grow_cell p0
      have D1 := grow_cell p1
      have D2 := grow_cell p2
      have hwj : wrap64 ((k : Int) - 1) = (j : Int) := by rw [IntWalk.wrap64_in _ ⟨by omega, by omega⟩]; omega
      have hkj : (k : Int) - 1 = (j : Int) := by omega
      have hjn : (j : Int) < n := by omega
      have hz := cmpB_lt l[j].name l[k].name
      have Hc := fun ww => compareNames_c (n := l[j].name) (m := l[k].name) (a := l[j].arity) (k := l[j].key) (a' := l[k].arity) (k' := l[k].key) ww
      have Hj := Lib.hid hj
      clear hj e' hxp hx hp hbB' hbB p0 p1 p2 c0 c1 c2 Hq
      generalize l[j] = q at *
      generalize l[k] = r at *
      generalize Op.bytesLess q.name.toList r.name.toList = z at *
      generalize Lib.compareBytes q.name.data.toList r.name.data.toList = zz at *
      cases z with
      | true =>
        rw [Bool.not_true] at hz
        go_wp2_with fail
        refine wp_region_grow (by kernel_rfl) (by kernel_rfl) ?_
        repeat (go_big_quiet_step ((go_at_call 121; exact Calls.grow fun ww h => Hc ww)))
        refine wpQuiet_nil ?_
        rintro _ ⟨nq, rfl⟩
        go_wp2
        go_roundw
        case rel => exact ⟨k + 1, by omega, by omega, by go_num, by have h := Hst.out; rw [Bool.true_and] at h; exact h.symm, hb.trans (nq.below.mono hb.size)⟩
        case measure => simp [intOf]; omega
      | false =>
        rw [Bool.not_false] at hz
        have hR : R = false := by have h := Hst.out; rw [Bool.false_and] at h; exact h
        go_wp2_with fail
        refine wp_region_grow (by kernel_rfl) (by kernel_rfl) ?_
        repeat (go_big_quiet_step ((go_at_call 121; exact Calls.grow fun ww h => Hc ww)))
        refine wpQuiet_nil ?_
        rintro _ ⟨nq, rfl⟩
        go_wp2
        go_ret
        exact ⟨by rw [hR]; rfl, hb.trans (nq.below.mono hb.size)⟩
    · have hR : R = true := by
        have := Hq.out
        rw [List.drop_eq_nil_of_le (by rw [Hn.out]; omega)] at this
        exact this.symm
      go_wp2
      go_ret
      exact ⟨by rw [hR]; rfl, hb⟩
end Go.Proofs.YtgipcnofonejcaaDoor

/- Chapter 2: the program's functions on lists of relations. -/
namespace Go.Proofs.YtgipcnofonejcaaDoor
open Go.RowKit
set_option linter.unusedVariables false
set_option maxRecDepth 100000

theorem all_drop {α : Type} (p : α → Bool) (l : List α) (k : Nat) (hk : k < l.length) : (l.drop k).all p = (p l[k] && (l.drop (k + 1)).all p) := by
  rw [List.drop_eq_getElem_cons hk]; rfl
set_option maxHeartbeats 1600000 in
theorem implAreValidRelations_c {a0 : Option Addr} {cap0 : Nat} {l : List Rel} {w : World} (h : At (cSlice cRel) w l [.slice a0 l.length cap0]) :
    Calls Tryd.prog 79 #[.slice a0 l.length cap0] w fun e w' => e = .returned (.bool (validRels l)) ∧ Below w.heap.size w w' := by
  have hm := (slice_len h).2
  unfold maxLen at hm
  unfold validRels
  rw [ascFrom_split]
  obtain ⟨n, hn⟩ : ∃ n : Nat, l.length = n := ⟨_, rfl⟩
  have Hr : Hid (∀ w' : World, Below w.heap.size w w' → ∀ j (hj : j < l.length), _) := fun w' hb j hj => at_Relation (Cod.ok_below h hb) j hj
  have Ha : Hid (∀ ww, Below w.heap.size w ww → Calls Tryd.prog 120 #[.slice a0 l.length cap0, .func (.func 121) #[] #[]] ww fun e w' => e = .returned (.bool (ascN none l)) ∧ Below ww.heap.size ww w') :=
    fun ww hb => ascNames_c (At.below h hb (Nat.le_refl _))
  have Hn := Lib.hid hn
  rw [hn] at hm Ha ⊢
  clear hn h
  generalize ascN none l = A at *
  generalize hR : l.all validRel = R
  have HR : Hid ((l.drop 0).all validRel = R) := hR
  clear hR
  by_cases h4 : (n : Int) > 4
  · have hd : decide (n ≤ 4) = false := decide_eq_false (by omega)
    rw [hd, Bool.and_false]
    go_enter Tryd.func79, Tryd.ntmps79
    go_wp2
    go_ret
    exact ⟨rfl, by go_grown⟩
  · have hd : decide (n ≤ 4) = true := decide_eq_true (by omega)
    rw [hd, Bool.and_true]
    go_enter Tryd.func79, Tryd.ntmps79
    go_wp2
    go_loopw [10] (fun iv wr => ∃ k : Nat, k ≤ n ∧ iv = .int .i64 k ∧ Hid ((l.drop k).all validRel = R) ∧ Below w.heap.size w wr) (fun iv _ => n - (intOf iv).toNat)
    case atStart => exact ⟨0, by omega, by go_num, HR, Below.refl _ _⟩
    case round =>
      clear HR
      obtain ⟨k, hk, rfl, Hq, hb⟩ := hrel
      by_cases hlt : k < n
      · have hkl : k < l.length := by rw [Hn.out]; exact hlt
        have Hst := Lib.hid (Hq.out.symm.trans (all_drop validRel l k hkl))
        obtain ⟨b, off, rfl, hbB, c0, c1, c2, hx⟩ := Hr.out _ hb k hkl
        have Hc : Hid (∀ ww, Below w.heap.size w ww → Calls Tryd.prog 119 #[.agg #[.string l[k].name, .int .i64 l[k].arity, .int .i64 l[k].key]] ww fun e w' => e = .returned (.bool (validRel l[k])) ∧ Below ww.heap.size ww w') :=
          fun ww hw2 => by obtain ⟨_, _, _, _, _, _, _, hx⟩ := Hr.out ww hw2 k hkl; exact implIsValidRelation_c (cRel.keep hx (fun _ _ => rfl) hw2.size)
        clear hx Hq
        generalize validRel l[k] = v at *
        generalize l[k] = r at *
        cases v with
        | true =>
          rw [Bool.true_and] at Hst
          go_wp2_with fail
          refine (Hc.out _ ?hb).mono ?_
          case hb => exact hb.trans (Below.mono (by go_grown) hb.size)
          rintro e w1 ⟨rfl, hb1⟩
          have hbb : Below w.heap.size w w1 := hb.trans (Below.mono (Below.trans (by go_grown) (hb1.mono (by simp; try omega))) hb.size)
          go_wp2
          go_roundw
          case rel => exact ⟨k + 1, by omega, by go_num, Hst.out.symm, hbb⟩
          case measure => simp [intOf]; omega
        | false =>
          have hR : R = false := by have h := Hst.out; rw [Bool.false_and] at h; exact h
          go_wp2_with fail
          refine (Hc.out _ ?hb).mono ?_
          case hb => exact hb.trans (Below.mono (by go_grown) hb.size)
          rintro e w1 ⟨rfl, hb1⟩
          have hbb : Below w.heap.size w w1 := hb.trans (Below.mono (Below.trans (by go_grown) (hb1.mono (by simp; try omega))) hb.size)
          go_wp2
          go_ret
          exact ⟨by rw [hR]; rfl, hbb⟩
      · obtain rfl : k = n := by omega
        have hR : R = true := by
          have := Hq.out
          rw [List.drop_eq_nil_of_le (by rw [Hn.out]; exact Nat.le_refl _)] at this
          exact this.symm
        go_wp2_with fail
        refine (Ha.out _ hb).mono ?_
        rintro e w1 ⟨rfl, hb1⟩
        have hbb : Below w.heap.size w w1 := hb.trans (hb1.mono hb.size)
        go_wp2
        go_ret
        exact ⟨by rw [hR]; rfl, hbb⟩

end Go.Proofs.YtgipcnofonejcaaDoor
namespace Go.Proofs.YtgipcnofonejcaaDoor
open Go.RowKit
set_option linter.unusedVariables false
set_option maxRecDepth 100000
set_option maxHeartbeats 1600000 in
theorem sliceCompare_c {a a' : Option Addr} {cap cap' : Nat} {l m : List Int} {w : World} (h : At (cSlice cInt) w l [.slice a l.length cap]) (h' : At (cSlice cInt) w m [.slice a' m.length cap']) :
    Calls Tryd.prog 123 #[.slice a l.length cap, .slice a' m.length cap'] w fun e w' => e = .returned (.int .i64 (cmpL l m)) ∧ Below w.heap.size w w' := by
  have hm := (slice_len h).2
  have hm' := (slice_len h').2
  unfold maxLen at hm hm'
  have Hr : Hid (∀ w' : World, Below w.heap.size w w' → ∀ j (hj : j < l.length), _) := fun w' hb j hj => ints_at (Cod.ok_below h hb) j hj
  have Hr' : Hid (∀ w' : World, Below w.heap.size w w' → ∀ j (hj : j < m.length), _) := fun w' hb j hj => ints_at (Cod.ok_below h' hb) j hj
  clear h h'
  obtain ⟨n, hn⟩ : ∃ n : Nat, l.length = n := ⟨_, rfl⟩
  obtain ⟨n', hn'⟩ : ∃ n : Nat, m.length = n := ⟨_, rfl⟩
  have Hn := Lib.hid hn
  have Hn' := Lib.hid hn'
  rw [hn] at hm ⊢
  rw [hn'] at hm' ⊢
  clear hn hn'
  generalize hR : cmpL l m = R
  have HR : Hid (cmpL (l.drop 0) (m.drop 0) = R) := hR
  clear hR
  go_enter Tryd.func123, Tryd.ntmps123
  go_wp2
  go_loopw [11] (fun iv wr => ∃ k : Nat, k ≤ n ∧ k ≤ n' ∧ iv = .int .i64 k ∧ Hid (cmpL (l.drop k) (m.drop k) = R) ∧ Below w.heap.size w wr) (fun iv _ => n - (intOf iv).toNat)
  case atStart => exact ⟨0, by omega, by omega, by go_num, HR, Below.refl _ _⟩
  case round =>
    clear HR
    obtain ⟨k, hk, hk', rfl, Hq, hb⟩ := hrel
    by_cases h1 : k < n
    · have hkl : k < l.length := by rw [Hn.out]; exact h1
      obtain ⟨b, off, rfl, hbB, c0⟩ := Hr.out _ hb k hkl
      by_cases h2 : k < n'
      · have hkm : k < m.length := by rw [Hn'.out]; exact h2
        have Hst := Lib.hid (Hq.out.symm.trans (cmpL_step l m k hkl hkm))
        obtain ⟨b', off', rfl, hbB', c0'⟩ := Hr'.out _ hb k hkm
        have Hz : Hid (∀ ww, Calls Tryd.prog 103 #[.int .i64 l[k], .int .i64 m[k]] ww fun e w' => e = .returned (.int .i64 (Lib.compareInt l[k] m[k])) ∧ w' = ww) := fun ww => Tryd.cmp_Compare_int _ _ _
        have hz : Lib.compareInt l[k] m[k] = if l[k] < m[k] then -1 else if m[k] < l[k] then 1 else 0 := rfl
        clear Hq
        generalize Lib.compareInt l[k] m[k] = z at *
        generalize l[k] = r at *
        generalize m[k] = r' at *
        by_cases hd : r < r'
        · have hR : R = -1 := by have := Hst.out; rw [if_pos hd] at this; exact this
          rw [if_pos hd] at hz
          subst hz
          go_wp2_with (go_at_call 103; refine (Hz.out _).mono ?_; rintro e w' ⟨rfl, rfl⟩)
          go_ret
          exact ⟨by rw [hR]; rfl, hb⟩
        · rw [if_neg hd] at hz
          by_cases hd2 : r' < r
          · have hR : R = 1 := by have := Hst.out; rw [if_neg hd, if_pos hd2] at this; exact this
            rw [if_pos hd2] at hz
            subst hz
            go_wp2_with (go_at_call 103; refine (Hz.out _).mono ?_; rintro e w' ⟨rfl, rfl⟩)
            go_ret
            exact ⟨by rw [hR]; rfl, hb⟩
          · have Hs2 : Hid (cmpL (l.drop (k + 1)) (m.drop (k + 1)) = R) := by have := Hst.out; rw [if_neg hd, if_neg hd2] at this; exact this.symm
            rw [if_neg hd2] at hz
            subst hz
            go_wp2_with (go_at_call 103; refine (Hz.out _).mono ?_; rintro e w' ⟨rfl, rfl⟩)
            go_roundw
            case rel => exact ⟨k + 1, by omega, by omega, by go_num, Hs2, hb⟩
            case measure => simp [intOf]; omega
      · have he := (cmpL_end l m k (by rw [Hn.out]; exact hk) (by rw [Hn'.out]; exact hk') (by rw [Hn.out, Hn'.out]; omega)).symm.trans Hq.out
        rw [Hn.out, Hn'.out] at he
        have hR : R = 1 := by rw [if_neg (by omega), if_pos (by omega)] at he; exact he.symm
        clear he Hq
        go_wp2_with fail
        go_ret
        exact ⟨by rw [hR]; rfl, hb⟩
    · have he := (cmpL_end l m k (by rw [Hn.out]; exact hk) (by rw [Hn'.out]; exact hk') (by rw [Hn.out, Hn'.out]; omega)).symm.trans Hq.out
      rw [Hn.out, Hn'.out] at he
      obtain rfl : k = n := by omega
      by_cases h3 : k < n'
      · have hR : R = -1 := by rw [if_pos (by omega)] at he; exact he.symm
        clear he Hq
        go_wp2_with fail
        go_ret
        exact ⟨by rw [hR]; rfl, hb⟩
      · have hR : R = 0 := by rw [if_neg (by omega), if_neg (by omega)] at he; exact he.symm
        clear he Hq
        go_wp2_with fail
        go_ret
        exact ⟨by rw [hR]; rfl, hb⟩

set_option maxHeartbeats 800000 in
theorem implCompareFacts_c {a1 a1' : Option Addr} {cap1 cap1' : Nat} {x y : Fct} {w : World} (h : At cFct w x [.int .i64 x.rel, .slice a1 x.vals.length cap1]) (h' : At cFct w y [.int .i64 y.rel, .slice a1' y.vals.length cap1']) :
    Calls Tryd.prog 82 #[.agg #[.int .i64 x.rel, .slice a1 x.vals.length cap1], .agg #[.int .i64 y.rel, .slice a1' y.vals.length cap1']] w fun e w' => e = .returned (.int .i64 (cmpF x y)) ∧ Below w.heap.size w w' := by
  have h1 := (cFct_inv h).1
  have h2 := (cFct_inv h').1
  have H1 : Hid (∀ ww, Below w.heap.size w ww → Calls Tryd.prog 123 #[.slice a1 x.vals.length cap1, .slice a1' y.vals.length cap1'] ww fun e w' => e = .returned (.int .i64 (cmpL x.vals y.vals)) ∧ Below ww.heap.size ww w') :=
    fun ww hb => sliceCompare_c (At.below (c := cSlice cInt) h1 hb (Nat.le_refl _)) (At.below (c := cSlice cInt) h2 hb (Nat.le_refl _))
  have H2 : Hid (∀ ww, Calls Tryd.prog 103 #[.int .i64 x.rel, .int .i64 y.rel] ww fun e w' => e = .returned (.int .i64 (Lib.compareInt x.rel y.rel)) ∧ w' = ww) := fun ww => Tryd.cmp_Compare_int _ _ _
  clear h h1 h' h2
  unfold cmpF
  obtain ⟨r, l⟩ := x
  obtain ⟨r', l'⟩ := y
  simp only at *
  have hz : Lib.compareInt r r' = if r < r' then -1 else if r' < r then 1 else 0 := rfl
  generalize Lib.compareInt r r' = c at *
  generalize cmpL l l' = z at *
  by_cases hr : r = r'
  · subst hr
    rw [if_neg (by omega), if_neg (by omega)]
    have hd : (r != r) = false := by simp
    go_enter Tryd.func82, Tryd.ntmps82
    go_wp2_with fail
    refine (H1.out _ ?hb).mono ?_
    case hb => go_grown
    rintro e w1 ⟨rfl, hb1⟩
    have hbb : Below w.heap.size w w1 := Below.trans (by go_grown) (hb1.mono (by simp; try omega))
    go_wp2
    go_ret
    exact ⟨rfl, hbb⟩
  · have hz2 : c = if r < r' then -1 else if r' < r then 1 else z := by
      rw [hz]; by_cases h1 : r < r'
      · rw [if_pos h1, if_pos h1]
      · rw [if_neg h1, if_neg h1, if_pos (by omega), if_pos (by omega)]
    rw [← hz2]
    clear hz hz2
    have hd : (r != r') = true := by simp [hr]
    go_enter Tryd.func82, Tryd.ntmps82
    go_wp2_with (go_at_call 103; refine (H2.out _).mono ?_; rintro e w' ⟨rfl, rfl⟩)
    go_ret
    exact ⟨rfl, by go_grown⟩

theorem isIndex_any (i : Int) (n : Nat) (w : World) :
    Calls Tryd.prog 101 #[.int .i64 i, .int .i64 n] w fun e w' => e = .returned (.bool (inB i 0 ((n : Int) - 1))) ∧ w = w' := by
  unfold inB
  have e : decide (i ≤ (n : Int) - 1) = decide (i < (n : Int)) := by simp; omega
  rw [e]
  clear e
  by_cases h : 0 ≤ i
  · go_enter Tryd.func101, Tryd.ntmps101
    go_wp2
    go_ret
    exact ⟨by simp; try omega, rfl⟩
  · go_enter Tryd.func101, Tryd.ntmps101
    go_wp2
    go_ret
    exact ⟨by simp; try omega, rfl⟩
theorem isValue_any (i : Int) (w : World) :
    Calls Tryd.prog 122 #[.int .i64 i] w fun e w' => e = .returned (.bool (inB i 0 9)) ∧ w = w' := by
  unfold inB
  by_cases h : 0 ≤ i
  · go_enter Tryd.func122, Tryd.ntmps122
    go_wp2
    go_ret
    exact ⟨by simp; try omega, rfl⟩
  · go_enter Tryd.func122, Tryd.ntmps122
    go_wp2
    go_ret
    exact ⟨by simp; try omega, rfl⟩
end Go.Proofs.YtgipcnofonejcaaDoor

/- Chapter 3: the program's IsValidFact. -/
namespace Go.Proofs.YtgipcnofonejcaaDoor
open Go.RowKit
set_option linter.unusedVariables false
set_option maxRecDepth 100000

set_option maxHeartbeats 1600000 in
theorem implIsValidFact_c {a0 a1 : Option Addr} {cap0 cap1 : Nat} {l : List Rel} {x : Fct} {w : World} (h : At (cSlice cRel) w l [.slice a0 l.length cap0]) (h' : At cFct w x [.int .i64 x.rel, .slice a1 x.vals.length cap1]) :
    Calls Tryd.prog 80 #[.slice a0 l.length cap0, .agg #[.int .i64 x.rel, .slice a1 x.vals.length cap1]] w fun e w' => e = .returned (.bool (validFact l x)) ∧ Below w.heap.size w w' := by
  have hm := (slice_len h).2
  have h1 := (cFct_inv h').1
  have hm1 := (slice_len h1).2
  unfold maxLen at hm hm1
  have Hr : Hid (∀ w' : World, Below w.heap.size w w' → ∀ j (hj : j < l.length), _) := fun w' hb j hj => at_Relation (Cod.ok_below h hb) j hj
  have Hi : Hid (∀ w' : World, Below w.heap.size w w' → ∀ j (hj : j < x.vals.length), _) := fun w' hb j hj => ints_at (Cod.ok_below h1 hb) j hj
  have Hc : Hid (∀ ww, Below w.heap.size w ww → Calls Tryd.prog 79 #[.slice a0 l.length cap0] ww fun e w' => e = .returned (.bool (validRels l)) ∧ Below ww.heap.size ww w') :=
    fun ww hb => implAreValidRelations_c (At.below h hb (Nat.le_refl _))
  clear h h' h1
  unfold validFact
  obtain ⟨n, hn⟩ : ∃ n : Nat, l.length = n := ⟨_, rfl⟩
  have Hn := Lib.hid hn
  rw [hn] at hm Hc ⊢
  clear hn
  obtain ⟨r, v⟩ := x
  simp only at *
  obtain ⟨nv, hnv⟩ : ∃ n : Nat, v.length = n := ⟨_, rfl⟩
  have Hnv := Lib.hid hnv
  rw [hnv] at hm1 ⊢
  clear hnv
  have Hl : Hid (∀ ww, Calls Tryd.prog 101 #[.int .i64 r, .int .i64 n] ww fun e w' => e = .returned (.bool (inB r 0 ((n : Int) - 1))) ∧ ww = w') := fun ww => isIndex_any _ _ _
  have hI : inB r 0 ((n : Int) - 1) = true → 0 ≤ r ∧ r ≤ (n : Int) - 1 := by unfold inB; simp
  generalize validRels l = V at *
  generalize inB r 0 ((n : Int) - 1) = I at *
  cases V with
  | false =>
    rw [Bool.false_and]
    go_enter Tryd.func80, Tryd.ntmps80
    go_wp2_with fail
    refine (Hc.out _ ?hb).mono ?_
    case hb => go_grown
    rintro e w1 ⟨rfl, hb1⟩
    have hbb : Below w.heap.size w w1 := Below.trans (by go_grown) (hb1.mono (by simp; try omega))
    go_wp2
    go_ret
    exact ⟨rfl, hbb⟩
  | true =>
    rw [Bool.true_and]
    cases I with
    | false =>
      rw [Bool.false_and]
      go_enter Tryd.func80, Tryd.ntmps80
      go_wp2_with fail
      obtain ⟨wx, hwx⟩ : ∃ wx, wx = w.alloc (Obj.cells #[.int .i64 r, .slice a1 nv cap1] 102) := ⟨_, rfl⟩
      rw [← hwx]
      have hb0 : Below w.heap.size w wx := by rw [hwx]; go_grown
      have p0 : wx.cell? ⟨w.heap.size, 0, none⟩ = some (.int .i64 r) := by rw [hwx]; go_simp
      clear hwx
      refine (Hc.out _ hb0).mono ?_
      rintro e w1 ⟨rfl, hb1⟩
      have hbb : Below w.heap.size w w1 := hb0.trans (hb1.mono hb0.size)
      replace p0 := (hb1.cell (World.block_lt_of_cell? wx _ p0)).trans p0
      go_wp2_with (go_at_call 101; refine (Hl.out _).mono ?_; rintro e w' ⟨rfl, rfl⟩)
      go_ret
      exact ⟨rfl, hbb⟩
    | true =>
      rw [Bool.true_and]
      obtain ⟨hr0, hr1⟩ := hI rfl
      clear hI
      obtain ⟨k, rfl⟩ := Int.eq_ofNat_of_zero_le hr0
      have hk : k < n := by omega
      have hkl : k < l.length := by rw [Hn.out]; exact hk
      have har : arityAt l (k : Int) = l[k].arity := by unfold arityAt; simp [hkl]
      rw [har]
      clear har
      generalize hR : allIn v = R
      have HR : Hid (allIn (v.drop 0) = R) := hR
      clear hR
      obtain ⟨Q, hQ⟩ : ∃ Q : Bool, decide ((nv : Int) = l[k].arity) = Q := ⟨_, rfl⟩
      rw [hQ]
      have hne : ((nv : Int) != l[k].arity) = !Q := by rw [← hQ]; by_cases h : (nv : Int) = l[k].arity <;> simp [h]
      clear hQ
      go_enter Tryd.func80, Tryd.ntmps80
      go_wp2_with fail
      obtain ⟨wx, hwx⟩ : ∃ wx, wx = w.alloc (Obj.cells #[.int .i64 (k : Int), .slice a1 nv cap1] 102) := ⟨_, rfl⟩
      rw [← hwx]
      have hb0 : Below w.heap.size w wx := by rw [hwx]; go_grown
      have p0 : wx.cell? ⟨w.heap.size, 0, none⟩ = some (.int .i64 (k : Int)) := by rw [hwx]; go_simp
      have p1 : wx.cell? ⟨w.heap.size, 1, none⟩ = some (.slice a1 nv cap1) := by rw [hwx]; go_simp
      clear hwx
      refine (Hc.out _ hb0).mono ?_
      rintro e w1 ⟨rfl, hb1⟩
      have hbb : Below w.heap.size w w1 := hb0.trans (hb1.mono hb0.size)
      replace p0 := (hb1.cell (World.block_lt_of_cell? wx _ p0)).trans p0
      replace p1 := (hb1.cell (World.block_lt_of_cell? wx _ p1)).trans p1
      clear hb0 hb1
      obtain ⟨b, off, rfl, hbB, c0, c1, c2, hx⟩ := Hr.out _ hbb k hkl
      have P0 := grow_cell p0
      have P1 := grow_cell p1
      have C1 := grow_cell c1
      clear c0 c1 c2 hx
      generalize l[k] = q at *
      cases Q with
      | false =>
        rw [Bool.not_false] at hne
        go_wp2_with (go_at_call 101; refine (Hl.out _).mono ?_; rintro e w' ⟨rfl, rfl⟩)
        refine wp_region_grow (by kernel_rfl) (by kernel_rfl) ?_
        repeat (go_big_quiet_step (fail))
        refine wpQuiet_nil ?_
        rintro _ ⟨nq, rfl⟩
        have hbb2 : Below w.heap.size w nq.W := hbb.trans (nq.below.mono hbb.size)
        go_wp2
        go_ret
        exact ⟨rfl, hbb2⟩
      | true =>
        rw [Bool.not_true] at hne
        go_wp2_with (go_at_call 101; refine (Hl.out _).mono ?_; rintro e w' ⟨rfl, rfl⟩)
        refine wp_region_grow (by kernel_rfl) (by kernel_rfl) ?_
        repeat (go_big_quiet_step (fail))
        refine wpQuiet_nil ?_
        rintro _ ⟨nq, rfl⟩
        have hbb2 : Below w.heap.size w nq.W := hbb.trans (nq.below.mono hbb.size)
        have q1 := P1 nq
        have hlt := World.block_lt_of_cell? nq.W _ q1
        go_wp2
        go_loopw [31] (fun iv wr => ∃ k : Nat, k ≤ nv ∧ iv = .int .i64 k ∧ Hid (allIn (v.drop k) = R) ∧ Below nq.W.heap.size nq.W wr) (fun iv _ => nv - (intOf iv).toNat)
        case atStart => exact ⟨0, by omega, by go_num, HR, Below.refl _ _⟩
        case round =>
          clear HR
          obtain ⟨j, hj, rfl, Hq, hb⟩ := hrel
          have hbw : Below w.heap.size w wr := hbb2.trans (hb.mono hbb2.size)
          by_cases hjn : j < nv
          · have hjl : j < v.length := by rw [Hnv.out]; exact hjn
            obtain ⟨b', off', rfl, hbB', d0⟩ := Hi.out _ hbw j hjl
            have Hst := Lib.hid (Hq.out.symm.trans (allIn_step v j hjl))
            clear Hq
            generalize v[j] = z at *
            have Hz : Hid (∀ ww, Calls Tryd.prog 122 #[.int .i64 z] ww fun e w' => e = .returned (.bool (inB z 0 9)) ∧ ww = w') := fun ww => isValue_any _ _
            generalize inB z 0 9 = J at *
            cases J with
            | true =>
              rw [Bool.true_and] at Hst
              go_wp2_with (go_at_call 122; refine (Hz.out _).mono ?_; rintro e w' ⟨rfl, rfl⟩)
              go_roundw
              case rel => exact ⟨j + 1, by omega, by go_num, Hst.out.symm, hb⟩
              case measure => simp [intOf]; omega
            | false =>
              have hR : R = false := by have := Hst.out; rw [Bool.false_and] at this; exact this
              go_wp2_with (go_at_call 122; refine (Hz.out _).mono ?_; rintro e w' ⟨rfl, rfl⟩)
              go_ret
              exact ⟨by rw [hR]; rfl, hbw⟩
          · obtain rfl : j = nv := by omega
            have hR : R = true := by
              have := Hq.out
              rw [List.drop_eq_nil_of_le (by rw [Hnv.out]; exact Nat.le_refl _)] at this
              exact this.symm
            go_wp2
            go_ret
            exact ⟨by rw [hR]; rfl, hbw⟩
end Go.Proofs.YtgipcnofonejcaaDoor
end

section
/- Appending what may be nil onto a row of the call's own. -/
namespace Go.Proofs.YtgipcnofonejcaaDoor
open Go.RowKit
set_option linter.unusedVariables false
set_option maxRecDepth 100000

/-- What is to be appended: cells from an address on, or nothing. -/
def Srcs (w : World) (size : Nat) (A : Option Addr) (m : Nat) (news : List Value) : Prop :=
  news.length = m * size ∧ (∀ u ∈ news, u.oneCell' = true) ∧ (A = none ∧ m = 0 ∨ ∃ ad, A = some ad ∧ ∀ j u, news[j]? = some u → w.cell? (ad.add j) = some u)
theorem Srcs.keep {w w' : World} {size : Nat} {A : Option Addr} {m : Nat} {news : List Value} (h : Srcs w size A m news) (hk : ∀ j ad, A = some ad → j < news.length → w'.cell? (ad.add j) = w.cell? (ad.add j)) : Srcs w' size A m news := by
  refine ⟨h.1, h.2.1, h.2.2.imp id ?_⟩
  rintro ⟨ad, rfl, hc⟩
  exact ⟨ad, rfl, fun j u hu => (hk j ad rfl (List.getElem?_eq_some_iff.1 hu).1).trans (hc j u hu)⟩
/-- The cells of a slice of numbers. -/
theorem srcs_ints {B : Nat} {w : World} {l : List Int} {a : Option Addr} {len cap : Nat} (h : (cSlice cInt).ok B w l [.slice a len cap]) : Srcs w 1 a l.length (l.map iv) := by
  obtain ⟨a', cap', e, hm, h⟩ := h
  simp at e
  obtain ⟨rfl, rfl, rfl⟩ := e
  refine ⟨by simp, ?_, ?_⟩
  · intro u hu
    obtain ⟨x, _, rfl⟩ := List.mem_map.1 hu
    rfl
  · cases hl : l.length with
    | zero =>
      obtain rfl := List.eq_nil_of_length_eq_zero hl
      cases a with
      | none => exact .inl ⟨rfl, rfl⟩
      | some ad => exact .inr ⟨ad, rfl, by simp⟩
    | succ n =>
      obtain ⟨b, off, _, rfl, _⟩ := h 0 (by omega)
      refine .inr ⟨_, rfl, fun j u hu => ?_⟩
      rw [List.getElem?_map] at hu
      cases hj : l[j]? with
      | none => rw [hj] at hu; cases hu
      | some x =>
        rw [hj] at hu
        injection hu with hu
        subst hu
        obtain ⟨hjl, rfl⟩ := List.getElem?_eq_some_iff.1 hj
        obtain ⟨b', off', es, e, _, he, hc⟩ := h j hjl
        simp at e
        obtain ⟨rfl, rfl⟩ := e
        obtain ⟨rfl, _⟩ := he
        have := hc 0 (by decide)
        simpa [cInt, iv, Addr.add_lit] using this

section
variable {P : Program}
theorem run_app_none (w : World) (base : Nat) (t ty e : TypeId) (i : TypeInfo) (size : Nat) (ht : P.underlying t = some (.slice e)) (hi : P.info? e = some i)
    (v : Value) (n : Nat) (xs : List Value) (hown : w.ownsRow base e size v n xs) (c : Nat) : (Builtin.append_ #[t, t] ty #[v, .slice none 0 c]).run P w = .ok v w := by
  rcases hown.2 with ⟨rfl, rfl⟩ | ⟨g, cap, cur, rfl, _, _, hn, _⟩
  · simp [Builtin.append_, run_underlying ht, sizeOf, typeInfo, hi, Builtin.lenOf, Builtin.firstCells]
  · simp [Builtin.append_, run_underlying ht, sizeOf, typeInfo, hi, Builtin.lenOf, Builtin.firstCells, hn, storeCells]
theorem run_app (w : World) (base : Nat) (t ty e : TypeId) (i : TypeInfo) (z : Value) (size bytes : Nat) (ht : P.underlying t = some (.slice e)) (hi : P.info? e = some i) (hz : i.zero = some z)
    (hsize : i.size = size) (hby : i.bytes = bytes) (hzs : z.cells.size = size) (hsz : 0 < size) (v : Value) (n : Nat) (xs : List Value) (hown : w.ownsRow base e size v n xs)
    (A : Option Addr) (m c : Nat) (news : List Value) (hs : Srcs w size A m news) (h63 : n + m ≤ maxLen) (hbytes : (n + m) * bytes ≤ 140737488355328) (hbase : base ≤ w.heap.size) :
    ∃ v' w', (Builtin.append_ #[t, t] ty #[v, .slice A m c]).run P w = .ok v' w' ∧ w'.ownsRow base e size v' (n + m) (xs ++ news) ∧ w.grownBy w' v.ownBlock ∧ (v'.ownBlock = v.ownBlock ∨ v'.ownBlock = some w.heap.size) := by
  obtain ⟨hl, h1, ⟨rfl, rfl⟩ | ⟨ad, rfl, hc⟩⟩ := hs
  · obtain rfl : news = [] := List.eq_nil_of_length_eq_zero (by simpa using hl)
    exact ⟨v, w, run_app_none w base t ty e i size ht hi v n xs hown c, by simpa using hown, World.grownBy.refl w _, .inl rfl⟩
  · obtain ⟨v', w', hr, h2, h3, _, h5⟩ := run_append_own_at (P := P) w base t ty e i z size bytes ht hi hz hsize hby hzs hsz v n xs hown ad m c news hl hc h1 h63 hbytes hbase
    exact ⟨v', w', hr, h2, h3, h5⟩
theorem wp_app {o : Oper} {a : Act} {w : World} {K : Act → World → Prop} {Q : Exit → Act → World → Prop} (s x : Operand) (t : TypeId)
    (ho : o.op = .call { callee := .builtin .append, args := #[s, x], argTypes := #[t, t] })
    (base : Nat) (e : TypeId) (i : TypeInfo) (z : Value) (size bytes : Nat) (ht : P.underlying t = some (.slice e)) (hi : P.info? e = some i) (hz : i.zero = some z)
    (hsize : i.size = size) (hby : i.bytes = bytes) (hzs : z.cells.size = size) (hsz : 0 < size) (v : Value) (n : Nat) (xs : List Value) (hs : a.eval s = v) (hown : w.ownsRow base e size v n xs)
    (A : Option Addr) (m c : Nat) (news : List Value) (hx : a.eval x = .slice A m c) (hr : Srcs w size A m news) (h63 : n + m ≤ maxLen) (hbytes : (n + m) * bytes ≤ 140737488355328) (hbase : base ≤ w.heap.size)
    (h : ∀ v' w', w'.ownsRow base e size v' (n + m) (xs ++ news) → w.grownBy w' v.ownBlock → (v'.ownBlock = v.ownBlock ∨ v'.ownBlock = some w.heap.size) → K (a.put o.dst v') w') : o.wp P a w K Q := by
  obtain ⟨v', w', hrun, h2, h3, h4⟩ := run_app (P := P) w base t o.type e i z size bytes ht hi hz hsize hby hzs hsz v n xs hown A m c news hr h63 hbytes hbase
  unfold Oper.wp execOp
  simp only [ho, resolve, invoke, builtin, Sem.run_bind, Sem.run_pure, Result.andThen_ok, List.map_toArray, List.map_cons, List.map_nil, hs, hx, hrun]
  exact h v' w' h2 h3 h4
theorem step_app {ops : Array Oper} {o : Oper} {a : Act} {w : World} {K : Act → World → Prop} {Q : Exit → Act → World → Prop} {E : Prop} (hgd : o.guard = none) (s x : Operand) (t : TypeId)
    (ho : o.op = .call { callee := .builtin .append, args := #[s, x], argTypes := #[t, t] })
    (base : Nat) (e : TypeId) (i : TypeInfo) (z : Value) (size bytes : Nat) (ht : P.underlying t = some (.slice e)) (hi : P.info? e = some i) (hz : i.zero = some z)
    (hsize : i.size = size) (hby : i.bytes = bytes) (hzs : z.cells.size = size) (hsz : 0 < size) (v : Value) (n : Nat) (xs : List Value) (hs : a.eval s = v) (hown : w.ownsRow base e size v n xs)
    (A : Option Addr) (m c : Nat) (news : List Value) (hx : a.eval x = .slice A m c) (hr : Srcs w size A m news) (h63 : n + m ≤ maxLen) (hbytes : (n + m) * bytes ≤ 140737488355328) (hbase : base ≤ w.heap.size)
    (h : ∀ v' w', w'.ownsRow base e size v' (n + m) (xs ++ news) → w.grownBy w' v.ownBlock → (v'.ownBlock = v.ownBlock ∨ v'.ownBlock = some w.heap.size) → K (a.put o.dst v') w') :
    if Region.wanted o (yielded ops a.tmps) = true then Oper.wp P o a w K Q else E := by
  rw [if_pos (by simp [Region.wanted, hgd])]
  exact wp_app s x t ho base e i z size bytes ht hi hz hsize hby hzs hsz v n xs hs hown A m c news hx hr h63 hbytes hbase h
end
end Go.Proofs.YtgipcnofonejcaaDoor
end

section
/- KeyOne: Eq Key Ord DbSpec DbImpl. -/
/- Go's slices.Equal on numbers; the first numbers of a slice. -/
namespace Go.Proofs.YtgipcnofonejcaaDoor
open Go.RowKit
set_option linter.unusedVariables false
set_option maxRecDepth 100000

/-- The first k numbers of a slice. -/
theorem ints_take {B : Nat} {w : World} {l : List Int} {a : Option Addr} {len cap : Nat} (h : (cSlice cInt).ok B w l [.slice a len cap]) (k : Nat) (hk : k ≤ l.length) :
    (cSlice cInt).ok B w (l.take k) [.slice a (l.take k).length cap] := by
  obtain ⟨a', cap', e, hm, h⟩ := h
  simp at e
  obtain ⟨rfl, rfl, rfl⟩ := e
  have hl : (l.take k).length = k := by simp; omega
  refine ⟨a, cap, rfl, ⟨by omega, by omega⟩, fun j hj => ?_⟩
  obtain ⟨b, off, es, he, hb, hc, hi⟩ := h j (by omega)
  exact ⟨b, off, es, he, hb, by simpa using hc, hi⟩

set_option maxHeartbeats 800000 in
theorem slicesEqualInt_c {a a' : Option Addr} {cap cap' : Nat} {l m : List Int} {w : World} (h : At (cSlice cInt) w l [.slice a l.length cap]) (h' : At (cSlice cInt) w m [.slice a' m.length cap']) :
    Calls Tryd.prog 126 #[.slice a l.length cap, .slice a' m.length cap'] w fun e w' => e = .returned (.bool (decide (l = m))) ∧ Below w.heap.size w w' := by
  have hm := (slice_len h).2
  have hm' := (slice_len h').2
  unfold maxLen at hm hm'
  by_cases hne : l.length = m.length
  · obtain ⟨n, hn⟩ : ∃ n : Nat, l.length = n := ⟨_, rfl⟩
    have Hr : Hid (∀ w' : World, Below w.heap.size w w' → ∀ j (hj : j < l.length), ∃ b off, a = some ⟨b, off, none⟩ ∧ b < w.heap.size ∧ w'.cell? ⟨b, off + j, none⟩ = some (.int .i64 l[j])) := fun w' hb j hj => ints_at (Cod.ok_below h hb) j hj
    have Hr' : Hid (∀ w' : World, Below w.heap.size w w' → ∀ j (hj : j < m.length), ∃ b off, a' = some ⟨b, off, none⟩ ∧ b < w.heap.size ∧ w'.cell? ⟨b, off + j, none⟩ = some (.int .i64 m[j])) := fun w' hb j hj => ints_at (Cod.ok_below h' hb) j hj
    clear h h'
    rw [← hne, hn]
    have Hn := Lib.hid hn
    have Hm : Hid (m.length = n) := by rw [← hne]; exact hn
    have hm2 : n ≤ 2 ^ 63 - 1 := by omega
    generalize hR : decide (l = m) = R
    have HR : Hid (decide (l.drop 0 = m.drop 0) = R) := hR
    clear hR hne hn hm hm'
    go_enter Tryd.func126, Tryd.ntmps126
    go_wp2
    go_loopw [13] (fun iv wr => ∃ k : Nat, k ≤ n ∧ iv = .int .i64 k ∧ Hid (decide (l.drop k = m.drop k) = R) ∧ Below w.heap.size w wr) (fun iv _ => n - (intOf iv).toNat)
    case atStart => exact ⟨0, by omega, by go_num, HR, Below.refl _ _⟩
    case round =>
      obtain ⟨k, hk, rfl, Hq, hb⟩ := hrel
      by_cases hlt : k < n
      · have hkl : k < l.length := by rw [Hn.out]; exact hlt
        have hkm : k < m.length := by rw [Hm.out]; exact hlt
        have Hst : Hid (R = (decide (l[k] = m[k]) && decide (l.drop (k + 1) = m.drop (k + 1)))) := by
          show R = _
          rw [← Hq.out, ← Bool.decide_and]; congr 1; rw [List.drop_eq_getElem_cons hkl, List.drop_eq_getElem_cons hkm, List.cons.injEq]
        obtain ⟨b, off, rfl, hbB, c0⟩ := Hr.out _ hb k hkl
        obtain ⟨b', off', rfl, hbB', c0'⟩ := Hr'.out _ hb k hkm
        generalize hrk : l[k] = r at *
        generalize hrk' : m[k] = r' at *
        clear hrk hrk'
        by_cases he : r = r'
        · have hn : (r != r') = false := by simp [he]
          have hst := Hst.out
          rw [decide_eq_true he, Bool.true_and] at hst
          have Hst2 := Lib.hid hst.symm
          clear hst Hst he
          go_wp2
          go_quiet (fail)
          go_wp2
          go_roundw
          case rel => exact ⟨k + 1, by omega, by go_num, Hst2, Below.drewN' hb _⟩
          case measure => simp [intOf]; omega
        · have hn : (r != r') = true := by simp [he]
          have hR : R = false := by have := Hst.out; rw [decide_eq_false he, Bool.false_and] at this; exact this
          clear Hst he
          go_wp2
          go_quiet (fail)
          go_wp2
          go_ret
          exact ⟨by rw [hR]; rfl, Below.drewN' hb _⟩
      · obtain rfl : k = n := by omega
        have hR : R = true := by
          have := Hq.out
          rw [List.drop_eq_nil_of_le (by rw [Hn.out]; exact Nat.le_refl _), List.drop_eq_nil_of_le (by rw [Hm.out]; exact Nat.le_refl _)] at this
          simpa using this.symm
        go_wp2
        go_ret
        exact ⟨by rw [hR]; rfl, hb⟩
  · rw [decide_eq_false (fun e => hne (by rw [e]))]
    have hne2 : (l.length != m.length) = true := by simpa using hne
    go_enter Tryd.func126, Tryd.ntmps126
    go_wp2
    go_ret
    exact ⟨rfl, Below.refl _ _⟩
end Go.Proofs.YtgipcnofonejcaaDoor

/- Chapter 3: keys: KeyOf and HaveSameKey, the program's side. -/
namespace Go.Proofs.YtgipcnofonejcaaDoor
open Go.RowKit
set_option linter.unusedVariables false
set_option maxRecDepth 100000

/-- The key's length of a relation, by its place. -/
def keyN (l : List Rel) (r : Int) : Nat := match l[r.toNat]? with | some q => q.key.toNat | none => 0
theorem validRels_all {l : List Rel} (h : validRels l = true) (k : Nat) (hk : k < l.length) : validRel l[k] = true := by
  unfold validRels at h
  rw [ascFrom_split] at h
  simp only [Bool.and_eq_true] at h
  exact List.all_eq_true.1 h.1.1 _ (List.getElem_mem hk)
/-- A valid fact: its relation is there, the key is no longer than the values. -/
theorem validFact_key {l : List Rel} {x : Fct} (h : validFact l x = true) : ∃ (k p : Nat) (hk : k < l.length), x.rel = (k : Int) ∧ l[k].key = (p : Int) ∧ p ≤ x.vals.length ∧ x.vals.length ≤ 3 ∧ keyN l (k : Int) = p ∧ l[k].arity = (x.vals.length : Int) := by
  unfold validFact inB at h
  simp only [Bool.and_eq_true, decide_eq_true_eq] at h
  obtain ⟨h1, ⟨h2, h3⟩, h4, h5⟩ := h
  obtain ⟨k, hk0⟩ := Int.eq_ofNat_of_zero_le h2
  have hk : k < l.length := by omega
  have hv := validRels_all h1 k hk
  unfold validRel inB at hv
  simp only [Bool.and_eq_true, decide_eq_true_eq] at hv
  obtain ⟨_, ⟨h6, h7⟩, h8, h9⟩ := hv
  have har : arityAt l x.rel = l[k].arity := by unfold arityAt; rw [hk0]; simp [hk]
  rw [har] at h4
  obtain ⟨p, hp⟩ := Int.eq_ofNat_of_zero_le h8
  refine ⟨k, p, hk, hk0, hp, by omega, by omega, ?_, h4.symm⟩
  unfold keyN
  simp [hk, hp]
/-- Two facts of one relation, with one key. -/
def sameKey (l : List Rel) (x y : Fct) : Bool := decide (x.rel = y.rel) && decide (x.vals.take (keyN l x.rel) = y.vals.take (keyN l x.rel))
/-- The key's values of a fact. -/
def keyVals (l : List Rel) (x : Fct) : List Int := if validFact l x then x.vals.take (keyN l x.rel) else []

set_option maxHeartbeats 1600000 in
theorem agreeOnKey_c {a0 ax ay : Option Addr} {cap0 cx cy : Nat} {l : List Rel} {x y : Fct} {w : World} (h : At (cSlice cRel) w l [.slice a0 l.length cap0]) (h1 : At cFct w x [.int .i64 x.rel, .slice ax x.vals.length cx]) (h2 : At cFct w y [.int .i64 y.rel, .slice ay y.vals.length cy])
    (hx : validFact l x = true) (hy : validFact l y = true) :
    Calls Tryd.prog 92 #[.slice a0 l.length cap0, .agg #[.int .i64 x.rel, .slice ax x.vals.length cx], .agg #[.int .i64 y.rel, .slice ay y.vals.length cy]] w fun e w' => e = .returned (.bool (sameKey l x y)) ∧ Below w.heap.size w w' := by
  have hX := (cFct_inv h1).1
  have hY := (cFct_inv h2).1
  have hcx := slice_cap hX
  have hcy := slice_cap hY
  have Hr : Hid (∀ w' : World, Below w.heap.size w w' → ∀ j (hj : j < l.length), _) := fun w' hb j hj => at_Relation (Cod.ok_below h hb) j hj
  obtain ⟨k, p, hk, hrx, hkey, hpl, hl3, hkn, ha1⟩ := validFact_key hx
  obtain ⟨k', p', hk', hry, hkey', hpl', hl3', hkn', ha2⟩ := validFact_key hy
  unfold sameKey
  obtain ⟨rx, vx⟩ := x
  obtain ⟨ry, vy⟩ := y
  simp only at *
  by_cases hrr : rx = ry
  · subst hrr
    obtain rfl : k = k' := by omega
    obtain rfl : p = p' := by omega
    subst hrx
    have He : Hid (∀ ww, Below w.heap.size w ww → Calls Tryd.prog 126 #[.slice ax p cx, .slice ay p cy] ww fun e w' => e = .returned (.bool (decide (vx.take p = vy.take p))) ∧ Below ww.heap.size ww w') := by
      intro ww hb
      have h := slicesEqualInt_c (At.below (ints_take hX p hpl) hb (Nat.le_refl _)) (At.below (ints_take hY p hpl') hb (Nat.le_refl _))
      rw [show (vx.take p).length = p by simp; omega, show (vy.take p).length = p by simp; omega] at h
      exact h
    rw [hkn, decide_eq_true rfl, Bool.true_and]
    generalize decide (vx.take p = vy.take p) = B at *
    obtain ⟨n, hn⟩ : ∃ n : Nat, vx.length = n := ⟨_, rfl⟩
    obtain ⟨m, hm⟩ : ∃ n : Nat, vy.length = n := ⟨_, rfl⟩
    obtain ⟨nl, hnl⟩ : ∃ n : Nat, l.length = n := ⟨_, rfl⟩
    have hkl := hk
    rw [hnl] at hkl ⊢
    rw [hn] at hcx hpl hl3 ⊢
    rw [hm] at hcy hpl' hl3' ⊢
    have Hk := Lib.hid hkey
    have HK : Hid (k < l.length) := hk
    clear hx hy h h1 h2 hX hY hkn hkn' hry ha1 ha2 hkey hkey' hn hm hnl hk'
    obtain ⟨wx, hwx⟩ : ∃ wx, wx = (w.alloc (Obj.cells #[.int .i64 (k : Int), .slice ax n cx] 102)).alloc (Obj.cells #[.int .i64 (k : Int), .slice ay m cy] 102) := ⟨_, rfl⟩
    have hb0 : Below w.heap.size w wx := by rw [hwx]; go_grown
    have p0 : wx.cell? ⟨w.heap.size, 0, none⟩ = some (.int .i64 (k : Int)) := by rw [hwx]; go_simp
    have p1 : wx.cell? ⟨w.heap.size, 1, none⟩ = some (.slice ax n cx) := by rw [hwx]; go_simp
    have r0 : wx.cell? ⟨w.heap.size + 1, 0, none⟩ = some (.int .i64 (k : Int)) := by rw [hwx]; go_simp
    have r1 : wx.cell? ⟨w.heap.size + 1, 1, none⟩ = some (.slice ay m cy) := by rw [hwx]; go_simp
    obtain ⟨b, off, rfl, hbB, c0, c1, c2, hx⟩ := Hr.out _ (Below.refl _ _) k HK.out
    rw [Hk.out] at c2
    clear c0 c1 hx Hk HK Hr
    have Hwx := Lib.hid hwx
    clear hwx
    have P1 := grow_cell p1
    have R1 := grow_cell r1
    go_enter Tryd.func92, Tryd.ntmps92
    go_wp2_with fail
    rw [← Hwx.out]
    refine wp_region_grow (by kernel_rfl) (by kernel_rfl) ?_
    repeat (go_big_quiet_step ((go_at_call 126; exact Calls.grow fun ww h => He.out ww (hb0.trans (h.mono hb0.size)))))
    refine wpQuiet_nil ?_
    rintro _ ⟨nq, rfl⟩
    go_wp2
    go_ret
    exact ⟨rfl, hb0.trans (nq.below.mono hb0.size)⟩
  · rw [decide_eq_false hrr, Bool.false_and]
    have hne : (rx != ry) = true := by simp [hrr]
    clear hx hy h h1 h2 hX hY hkn hkn' hrx hry ha1 ha2 hkey hkey' Hr hrr
    go_enter Tryd.func92, Tryd.ntmps92
    go_wp2
    go_ret
    exact ⟨rfl, by go_grown⟩

/-- HaveSameKey's answer. -/
def haveKey (l : List Rel) (x y : Fct) : Bool := validFact l x && (validFact l y && sameKey l x y)
end Go.Proofs.YtgipcnofonejcaaDoor
namespace Go.Proofs.YtgipcnofonejcaaDoor
set_option linter.unusedVariables false
theorem cmpL_zero : ∀ a b : List Int, cmpL a b = 0 ↔ a = b
  | [], [] => by simp [cmpL]
  | [], _ :: _ => by simp [cmpL]
  | _ :: _, [] => by simp [cmpL]
  | x :: a, y :: b => by
    simp only [cmpL]
    split
    · simp; omega
    · split
      · simp; omega
      · rw [cmpL_zero a b, List.cons.injEq]
        exact ⟨fun h => ⟨by omega, h⟩, fun h => h.2⟩
end Go.Proofs.YtgipcnofonejcaaDoor

/- Chapter 4: the model's functions on databases that hand back plain values. -/
namespace Go.Proofs.YtgipcnofonejcaaDoor
open Go.RowKit
set_option linter.unusedVariables false
set_option maxRecDepth 100000

/-- What stands before place k. -/
def prevG {α : Type} (l : List α) : Nat → Option α
  | 0 => none
  | k + 1 => l[k]?
/-- A fact behind another one. -/
def okF : Option Fct → Fct → Bool
  | none, _ => true
  | some q, x => !decide (cmpF q x ≥ 0)
/-- Valid facts, ascending from a fact on. -/
def factsFrom (rs : List Rel) : Option Fct → List Fct → Bool
  | _, [] => true
  | p, x :: l => validFact rs x && (okF p x && factsFrom rs (some x) l)
/-- A valid database. -/
def validDb (d : Dbs) : Bool := factsFrom d.rels none d.facts && (validRels d.rels && decide (d.facts.length ≤ 14))
theorem factsFrom_step (rs : List Rel) (l : List Fct) (k : Nat) (hk : k < l.length) : factsFrom rs (prevG l k) (l.drop k) = (validFact rs l[k] && (okF (prevG l k) l[k] && factsFrom rs (prevG l (k + 1)) (l.drop (k + 1)))) := by
  rw [List.drop_eq_getElem_cons hk]
  simp [factsFrom, prevG, hk]
theorem okF_succ (l : List Fct) (k : Nat) (hk : k < l.length) (x : Fct) : okF (prevG l (k + 1)) x = !decide (cmpF l[k] x ≥ 0) := by
  simp [prevG, hk, okF]

set_option maxHeartbeats 3200000 in
theorem specIsValidDatabase_c {a0 a1 : Option Addr} {cap0 cap1 : Nat} {x : Dbs} {w : World} (h : At cDbs w x [.slice a0 x.rels.length cap0, .slice a1 x.facts.length cap1]) :
    Calls Tryd.prog 36 #[.agg #[.slice a0 x.rels.length cap0, .slice a1 x.facts.length cap1]] w fun e w' => e = .returned (.bool (validDb x)) ∧ Below w.heap.size w w' := by
  have h0 := (cDbs_inv h).1
  have h1 := (cDbs_inv h).2
  have hm := (slice_len h1).2
  unfold maxLen at hm
  have Hr : Hid (∀ w' : World, Below w.heap.size w w' → ∀ j (hj : j < x.facts.length), _) := fun w' hb j hj => at_Fact (Cod.ok_below h1 hb) j hj
  have Hv : Hid (∀ ww, Below w.heap.size w ww → Calls Tryd.prog 72 #[.slice a0 x.rels.length cap0] ww fun e w' => e = .returned (.bool (validRels x.rels)) ∧ Below ww.heap.size ww w') :=
    fun ww hb => specAreValidRelations_c (At.below h0 hb (Nat.le_refl _))
  have Hf : Hid (∀ ww, Below w.heap.size w ww → ∀ (f : Fct) (a : Option Addr) (c : Nat), At cFct ww f [.int .i64 f.rel, .slice a f.vals.length c] → Calls Tryd.prog 70 #[.slice a0 x.rels.length cap0, .agg #[.int .i64 f.rel, .slice a f.vals.length c]] ww fun e w' => e = .returned (.bool (validFact x.rels f)) ∧ Below ww.heap.size ww w') :=
    fun ww hb f a c hA => specIsValidFact_c (At.below h0 hb (Nat.le_refl _)) hA
  clear h h0 h1
  obtain ⟨rs, l⟩ := x
  simp only [validDb] at *
  obtain ⟨n, hn⟩ : ∃ n : Nat, l.length = n := ⟨_, rfl⟩
  obtain ⟨nr, hnr⟩ : ∃ n : Nat, rs.length = n := ⟨_, rfl⟩
  have Hn := Lib.hid hn
  rw [hn] at hm ⊢
  rw [hnr] at Hv Hf ⊢
  clear hn hnr
  generalize validRels rs = V at *
  generalize hR : factsFrom rs none l = R
  have HR : Hid (factsFrom rs (prevG l 0) (l.drop 0) = R) := hR
  clear hR
  go_enter Tryd.func36, Tryd.ntmps36
  go_wp2_with fail
  obtain ⟨wx, hwx⟩ : ∃ wx, wx = w.alloc (Obj.cells #[.slice a0 nr cap0, .slice a1 n cap1] 34) := ⟨_, rfl⟩
  rw [← hwx]
  have hb0 : Below w.heap.size w wx := by rw [hwx]; go_grown
  have p0 : wx.cell? ⟨w.heap.size, 0, none⟩ = some (.slice a0 nr cap0) := by rw [hwx]; go_simp
  have p1 : wx.cell? ⟨w.heap.size, 1, none⟩ = some (.slice a1 n cap1) := by rw [hwx]; go_simp
  clear hwx
  go_loopw [3] (fun iv wr => ∃ k : Nat, k ≤ n ∧ iv = .int .i64 k ∧ Hid (factsFrom rs (prevG l k) (l.drop k) = R) ∧ Below wx.heap.size wx wr) (fun iv _ => n - (intOf iv).toNat)
  case atStart => exact ⟨0, by omega, by go_num, HR, Below.refl _ _⟩
  case round =>
    clear HR
    obtain ⟨k, hk, rfl, Hq, hbx⟩ := hrel
    have q0 := (hbx.cell (World.block_lt_of_cell? wx _ p0)).trans p0
    have q1 := (hbx.cell (World.block_lt_of_cell? wx _ p1)).trans p1
    have hb : Below w.heap.size w wr := hb0.trans (hbx.mono hb0.size)
    clear p0 p1
    by_cases hlt : k < n
    · have hkl : k < l.length := by rw [Hn.out]; exact hlt
      have Hst := Lib.hid (Hq.out.symm.trans (factsFrom_step rs l k hkl))
      obtain ⟨b, off, av, cv, rfl, hbB, c0, c1, hx⟩ := Hr.out _ hb k hkl
      have hA : At cFct wr l[k] [.int .i64 l[k].rel, .slice av l[k].vals.length cv] := cFct.keep hx (fun _ _ => rfl) hb.size
      have Hc : Hid (∀ ww, Below wr.heap.size wr ww → Calls Tryd.prog 70 #[.slice a0 nr cap0, .agg #[.int .i64 l[k].rel, .slice av l[k].vals.length cv]] ww fun e w' => e = .returned (.bool (validFact rs l[k])) ∧ Below ww.heap.size ww w') :=
        fun ww hw2 => Hf.out ww (hb.trans (hw2.mono hb.size)) l[k] av cv (At.below hA hw2 (Nat.le_refl _))
      have C0 := grow_cell c0
      have C1 := grow_cell c1
      have Q0 := grow_cell q0
      have Q1 := grow_cell q1
      clear hx Hq c0 c1
      generalize validFact rs l[k] = v at *
      rcases Nat.eq_zero_or_pos k with hk0 | hk0
      · have hg : decide ((0 : Int) < (k : Int)) = false := decide_eq_false (by omega)
        have hg2 : decide (0 < k) = false := decide_eq_false (by omega)
        have hp : okF (prevG l k) l[k] = true := by subst hk0; rfl
        rw [hp, Bool.true_and] at Hst
        clear hp hk0 hA
        generalize l[k] = r at *
        cases v with
        | true =>
          go_wp2_with fail
          refine wp_region_grow (by kernel_rfl) (by kernel_rfl) ?_
          repeat (go_big_quiet_step ((go_at_call 70; exact Calls.grow fun ww h => Hc.out ww h)))
          refine wpQuiet_nil ?_
          rintro _ ⟨nq, rfl⟩
          go_wp2
          go_roundw
          case rel => exact ⟨k + 1, by omega, by go_num, by have h := Hst.out; rw [Bool.true_and] at h; exact h.symm, hbx.trans (nq.below.mono hbx.size)⟩
          case measure => simp [intOf]; omega
        | false =>
          have hR : R = false := by have h := Hst.out; rw [Bool.false_and] at h; exact h
          go_wp2_with fail
          refine wp_region_grow (by kernel_rfl) (by kernel_rfl) ?_
          repeat (go_big_quiet_step ((go_at_call 70; exact Calls.grow fun ww h => Hc.out ww h)))
          refine wpQuiet_nil ?_
          rintro _ ⟨nq, rfl⟩
          go_wp2
          go_ret
          exact ⟨by rw [hR]; rfl, hb.trans (nq.below.mono hb.size)⟩
      · have hg : decide ((0 : Int) < (k : Int)) = true := decide_eq_true (by omega)
        have hg2 : decide (0 < k) = true := decide_eq_true (by omega)
        obtain ⟨j, hj⟩ : ∃ j, k = j + 1 := ⟨k - 1, by omega⟩
        have hjl : j < l.length := by omega
        have hp : okF (prevG l k) l[k] = !decide (cmpF l[j] l[k] ≥ 0) := by subst hj; exact okF_succ l j hjl _
        rw [hp] at Hst
        clear hp hk0
        obtain ⟨b', off', av', cv', e', hbB', d0, d1, hxp⟩ := Hr.out _ hb j hjl
        obtain ⟨rfl, rfl⟩ : b = b' ∧ off = off' := by simp at e'; exact e'
        have hA' : At cFct wr l[j] [.int .i64 l[j].rel, .slice av' l[j].vals.length cv'] := cFct.keep hxp (fun _ _ => rfl) hb.size
        have Hz : Hid (∀ ww, Below wr.heap.size wr ww → Calls Tryd.prog 71 #[.agg #[.int .i64 l[j].rel, .slice av' l[j].vals.length cv'], .agg #[.int .i64 l[k].rel, .slice av l[k].vals.length cv]] ww fun e w' => e = .returned (.int .i64 (cmpF l[j] l[k])) ∧ Below ww.heap.size ww w') :=
          fun ww hw2 => specCompareFacts_c (At.below hA' hw2 (Nat.le_refl _)) (At.below hA hw2 (Nat.le_refl _))
        have hwj : wrap64 ((k : Int) - 1) = (j : Int) := by rw [IntWalk.wrap64_in _ ⟨by omega, by omega⟩]; omega
        have hkj : (k : Int) - 1 = (j : Int) := by omega
        have D0 := grow_cell d0
        have D1 := grow_cell d1
        have hjn : (j : Int) < n := by omega
        have Hj := Lib.hid hj
        clear hj e' hxp hbB' d0 d1 hA hA'
        generalize cmpF l[j] l[k] = z at *
        generalize l[j] = q at *
        generalize l[k] = r at *
        cases v with
        | true =>
          rw [Bool.true_and] at Hst
          by_cases hz : z ≥ 0
          · have hR : R = false := by have h := Hst.out; rw [decide_eq_true hz, Bool.not_true, Bool.false_and] at h; exact h
            have hzd : decide (z ≥ 0) = true := decide_eq_true hz
            go_wp2_with fail
            refine wp_region_grow (by kernel_rfl) (by kernel_rfl) ?_
            repeat (go_big_quiet_step (first | (go_at_call 70; exact Calls.grow fun ww h => Hc.out ww h) | (go_at_call 71; exact Calls.grow fun ww h => Hz.out ww h)))
            refine wpQuiet_nil ?_
            rintro _ ⟨nq, rfl⟩
            go_wp2
            go_ret
            exact ⟨by rw [hR]; rfl, hb.trans (nq.below.mono hb.size)⟩
          · have Hs2 : Hid (factsFrom rs (prevG l (k + 1)) (l.drop (k + 1)) = R) := by have h := Hst.out; rw [decide_eq_false hz, Bool.not_false, Bool.true_and] at h; exact h.symm
            have hzd : decide (z ≥ 0) = false := decide_eq_false hz
            go_wp2_with fail
            refine wp_region_grow (by kernel_rfl) (by kernel_rfl) ?_
            repeat (go_big_quiet_step (first | (go_at_call 70; exact Calls.grow fun ww h => Hc.out ww h) | (go_at_call 71; exact Calls.grow fun ww h => Hz.out ww h)))
            refine wpQuiet_nil ?_
            rintro _ ⟨nq, rfl⟩
            go_wp2
            go_roundw
            case rel => exact ⟨k + 1, by omega, by go_num, Hs2, hbx.trans (nq.below.mono hbx.size)⟩
            case measure => simp [intOf]; omega
        | false =>
          have hR : R = false := by have h := Hst.out; rw [Bool.false_and] at h; exact h
          go_wp2_with fail
          refine wp_region_grow (by kernel_rfl) (by kernel_rfl) ?_
          repeat (go_big_quiet_step ((go_at_call 70; exact Calls.grow fun ww h => Hc.out ww h)))
          refine wpQuiet_nil ?_
          rintro _ ⟨nq, rfl⟩
          go_wp2
          go_ret
          exact ⟨by rw [hR]; rfl, hb.trans (nq.below.mono hb.size)⟩
    · obtain rfl : k = n := by omega
      have hR : R = true := by
        have := Hq.out
        rw [List.drop_eq_nil_of_le (by rw [Hn.out]; exact Nat.le_refl _)] at this
        exact this.symm
      go_wp2_with fail
      refine (Hv.out _ hb).mono ?_
      rintro e w1 ⟨rfl, hb1⟩
      have hbb : Below w.heap.size w w1 := hb.trans (hb1.mono hb.size)
      replace q1 := (hb1.cell (World.block_lt_of_cell? wr _ q1)).trans q1
      cases V with
      | true =>
        by_cases h4 : (k : Int) ≤ 14
        · go_wp2
          go_ret
          exact ⟨by show Ending.returned (.bool _) = _; rw [hR]; simp; omega, hbb⟩
        · go_wp2
          go_ret
          exact ⟨by show Ending.returned (.bool _) = _; rw [hR]; simp; omega, hbb⟩
      | false =>
        go_wp2
        go_ret
        exact ⟨by rw [hR]; rfl, hbb⟩
end Go.Proofs.YtgipcnofonejcaaDoor

/- Chapter 4: the program's IsValidDatabase. -/
namespace Go.Proofs.YtgipcnofonejcaaDoor
open Go.RowKit
set_option linter.unusedVariables false
set_option maxRecDepth 100000

/-- Facts ascending, behind a fact. -/
def ascF : Option Fct → List Fct → Bool
  | _, [] => true
  | p, x :: l => okF p x && ascF (some x) l
theorem ascF_step (l : List Fct) (k : Nat) (hk : k < l.length) : ascF (prevG l k) (l.drop k) = (okF (prevG l k) l[k] && ascF (prevG l (k + 1)) (l.drop (k + 1))) := by
  rw [List.drop_eq_getElem_cons hk]
  simp [ascF, prevG, hk]
theorem ascF_start (l : List Fct) : ascF none l = ascF (prevG l 1) (l.drop 1) := by
  cases l with
  | nil => rfl
  | cons r l => simp [ascF, prevG, okF]
theorem factsFrom_split (rs : List Rel) : ∀ (l : List Fct) (p : Option Fct), factsFrom rs p l = (l.all (validFact rs) && ascF p l)
  | [], _ => rfl
  | r :: l, p => by
    simp only [factsFrom, ascF, List.all_cons, factsFrom_split rs l]
    cases validFact rs r <;> cases okF p r <;> cases l.all (validFact rs) <;> simp
theorem validDb_eq (d : Dbs) : validDb d = ((validRels d.rels && decide (d.facts.length ≤ 14)) && (d.facts.all (validFact d.rels) && ascF none d.facts)) := by
  unfold validDb
  rw [factsFrom_split, Bool.and_comm]

set_option maxHeartbeats 1600000 in
theorem ascFacts_c {a0 : Option Addr} {cap0 : Nat} {l : List Fct} {w : World} (h : At (cSlice cFct) w l [.slice a0 l.length cap0]) :
    Calls Tryd.prog 81 #[.slice a0 l.length cap0, .func (.func 82) #[] #[]] w fun e w' => e = .returned (.bool (ascF none l)) ∧ Below w.heap.size w w' := by
  have hm := (slice_len h).2
  unfold maxLen at hm
  obtain ⟨n, hn⟩ : ∃ n : Nat, l.length = n := ⟨_, rfl⟩
  have Hr : Hid (∀ w' : World, Below w.heap.size w w' → ∀ j (hj : j < l.length), _) := fun w' hb j hj => at_Fact (Cod.ok_below h hb) j hj
  have Hn := Lib.hid hn
  rw [hn] at hm ⊢
  clear hn h
  generalize hR : ascF none l = R
  rw [ascF_start] at hR
  have HR : Hid (ascF (prevG l 1) (l.drop 1) = R) := hR
  clear hR
  go_enter Tryd.func81, Tryd.ntmps81
  go_wp2
  go_loopw [5] (fun iv wr => ∃ k : Nat, (k ≤ n ∨ k = 1) ∧ 1 ≤ k ∧ iv = .int .i64 k ∧ Hid (ascF (prevG l k) (l.drop k) = R) ∧ Below w.heap.size w wr) (fun iv _ => n - (intOf iv).toNat)
  case atStart => exact ⟨1, by omega, by omega, by go_num, HR, Below.refl _ _⟩
  case round =>
    clear HR
    obtain ⟨k, hk, hk1, rfl, Hq, hb⟩ := hrel
    by_cases hlt : k < n
    · have hkl : k < l.length := by rw [Hn.out]; exact hlt
      obtain ⟨j, hj⟩ : ∃ j, k = j + 1 := ⟨k - 1, by omega⟩
      have hjl : j < l.length := by omega
      have hp : okF (prevG l k) l[k] = !decide (cmpF l[j] l[k] ≥ 0) := by subst hj; exact okF_succ l j hjl _
      have Hst := Lib.hid (Hq.out.symm.trans (ascF_step l k hkl))
      rw [hp] at Hst
      obtain ⟨b, off, av, cv, rfl, hbB, c0, c1, hx⟩ := Hr.out _ hb k hkl
      obtain ⟨b', off', av', cv', e', hbB', p0, p1, hxp⟩ := Hr.out _ hb j hjl
      obtain ⟨rfl, rfl⟩ : b = b' ∧ off = off' := by simp at e'; exact e'
      have hA : At cFct wr l[k] [.int .i64 l[k].rel, .slice av l[k].vals.length cv] := cFct.keep hx (fun _ _ => rfl) hb.size
      have hA' : At cFct wr l[j] [.int .i64 l[j].rel, .slice av' l[j].vals.length cv'] := cFct.keep hxp (fun _ _ => rfl) hb.size
      have Hz : Hid (∀ ww, Below wr.heap.size wr ww → Calls Tryd.prog 82 #[.agg #[.int .i64 l[j].rel, .slice av' l[j].vals.length cv'], .agg #[.int .i64 l[k].rel, .slice av l[k].vals.length cv]] ww fun e w' => e = .returned (.int .i64 (cmpF l[j] l[k])) ∧ Below ww.heap.size ww w') :=
        fun ww hw2 => implCompareFacts_c (At.below hA' hw2 (Nat.le_refl _)) (At.below hA hw2 (Nat.le_refl _))
      have C0 := grow_cell c0
      have C1 := grow_cell c1
      have D0 := grow_cell p0
      have D1 := grow_cell p1
      have hwj : wrap64 ((k : Int) - 1) = (j : Int) := by rw [IntWalk.wrap64_in _ ⟨by omega, by omega⟩]; omega
      have hkj : (k : Int) - 1 = (j : Int) := by omega
      have hjn : (j : Int) < n := by omega
      have Hj := Lib.hid hj
      clear hj e' hxp hx hp hbB' hbB p0 p1 c0 c1 hA hA' Hq
      generalize cmpF l[j] l[k] = z at *
      generalize l[j] = q at *
      generalize l[k] = r at *
      by_cases hz : z ≥ 0
      · have hR : R = false := by have h := Hst.out; rw [decide_eq_true hz, Bool.not_true, Bool.false_and] at h; exact h
        have hzd : decide (z ≥ 0) = true := decide_eq_true hz
        go_wp2_with fail
        refine wp_region_grow (by kernel_rfl) (by kernel_rfl) ?_
        repeat (go_big_quiet_step ((go_at_call 82; exact Calls.grow fun ww h => Hz.out ww h)))
        refine wpQuiet_nil ?_
        rintro _ ⟨nq, rfl⟩
        go_wp2
        go_ret
        exact ⟨by rw [hR]; rfl, hb.trans (nq.below.mono hb.size)⟩
      · have Hs2 : Hid (ascF (prevG l (k + 1)) (l.drop (k + 1)) = R) := by have h := Hst.out; rw [decide_eq_false hz, Bool.not_false, Bool.true_and] at h; exact h.symm
        have hzd : decide (z ≥ 0) = false := decide_eq_false hz
        go_wp2_with fail
        refine wp_region_grow (by kernel_rfl) (by kernel_rfl) ?_
        repeat (go_big_quiet_step ((go_at_call 82; exact Calls.grow fun ww h => Hz.out ww h)))
        refine wpQuiet_nil ?_
        rintro _ ⟨nq, rfl⟩
        go_wp2
        go_roundw
        case rel => exact ⟨k + 1, by omega, by omega, by go_num, Hs2, hb.trans (nq.below.mono hb.size)⟩
        case measure => simp [intOf]; omega
    · have hR : R = true := by
        have := Hq.out
        rw [List.drop_eq_nil_of_le (by rw [Hn.out]; omega)] at this
        exact this.symm
      go_wp2
      go_ret
      exact ⟨by rw [hR]; rfl, hb⟩

set_option maxHeartbeats 3200000 in
theorem implIsValidDatabase_c {a0 a1 : Option Addr} {cap0 cap1 : Nat} {x : Dbs} {w : World} (h : At cDbs w x [.slice a0 x.rels.length cap0, .slice a1 x.facts.length cap1]) :
    Calls Tryd.prog 42 #[.agg #[.slice a0 x.rels.length cap0, .slice a1 x.facts.length cap1]] w fun e w' => e = .returned (.bool (validDb x)) ∧ Below w.heap.size w w' := by
  rw [validDb_eq]
  have h0 := (cDbs_inv h).1
  have h1 := (cDbs_inv h).2
  have hm := (slice_len h1).2
  unfold maxLen at hm
  have Hr : Hid (∀ w' : World, Below w.heap.size w w' → ∀ j (hj : j < x.facts.length), _) := fun w' hb j hj => at_Fact (Cod.ok_below h1 hb) j hj
  have Hv : Hid (∀ ww, Below w.heap.size w ww → Calls Tryd.prog 79 #[.slice a0 x.rels.length cap0] ww fun e w' => e = .returned (.bool (validRels x.rels)) ∧ Below ww.heap.size ww w') :=
    fun ww hb => implAreValidRelations_c (At.below h0 hb (Nat.le_refl _))
  have Hs : Hid (∀ ww, Below w.heap.size w ww → Calls Tryd.prog 81 #[.slice a1 x.facts.length cap1, .func (.func 82) #[] #[]] ww fun e w' => e = .returned (.bool (ascF none x.facts)) ∧ Below ww.heap.size ww w') :=
    fun ww hb => ascFacts_c (At.below h1 hb (Nat.le_refl _))
  have Hf : Hid (∀ ww, Below w.heap.size w ww → ∀ (f : Fct) (a : Option Addr) (c : Nat), At cFct ww f [.int .i64 f.rel, .slice a f.vals.length c] → Calls Tryd.prog 80 #[.slice a0 x.rels.length cap0, .agg #[.int .i64 f.rel, .slice a f.vals.length c]] ww fun e w' => e = .returned (.bool (validFact x.rels f)) ∧ Below ww.heap.size ww w') :=
    fun ww hb f a c hA => implIsValidFact_c (At.below h0 hb (Nat.le_refl _)) hA
  clear h h0 h1
  obtain ⟨rs, l⟩ := x
  simp only at *
  obtain ⟨n, hn⟩ : ∃ n : Nat, l.length = n := ⟨_, rfl⟩
  obtain ⟨nr, hnr⟩ : ∃ n : Nat, rs.length = n := ⟨_, rfl⟩
  have Hn := Lib.hid hn
  rw [hn] at hm Hs ⊢
  rw [hnr] at Hv Hf ⊢
  clear hn hnr
  generalize validRels rs = V at *
  generalize ascF none l = A at *
  generalize hR : l.all (validFact rs) = R
  have HR : Hid ((l.drop 0).all (validFact rs) = R) := hR
  clear hR
  obtain ⟨wx, hwx⟩ : ∃ wx, wx = w.alloc (Obj.cells #[.slice a0 nr cap0, .slice a1 n cap1] 34) := ⟨_, rfl⟩
  have hb0 : Below w.heap.size w wx := by rw [hwx]; go_grown
  have p0 : wx.cell? ⟨w.heap.size, 0, none⟩ = some (.slice a0 nr cap0) := by rw [hwx]; go_simp
  have p1 : wx.cell? ⟨w.heap.size, 1, none⟩ = some (.slice a1 n cap1) := by rw [hwx]; go_simp
  have Hwx := Lib.hid hwx
  clear hwx
  by_cases h4 : (n : Int) > 14
  · have hd : decide (n ≤ 14) = false := decide_eq_false (by omega)
    rw [hd, Bool.and_false, Bool.false_and]
    cases V with
    | true =>
      go_enter Tryd.func42, Tryd.ntmps42
      go_wp2_with fail
      rw [← Hwx.out]
      refine (Hv.out _ hb0).mono ?_
      rintro e w1 ⟨rfl, hb1⟩
      have hbb : Below w.heap.size w w1 := hb0.trans (hb1.mono hb0.size)
      replace p1 := (hb1.cell (World.block_lt_of_cell? wx _ p1)).trans p1
      go_wp2
      go_ret
      exact ⟨rfl, hbb⟩
    | false =>
      go_enter Tryd.func42, Tryd.ntmps42
      go_wp2_with fail
      rw [← Hwx.out]
      refine (Hv.out _ hb0).mono ?_
      rintro e w1 ⟨rfl, hb1⟩
      have hbb : Below w.heap.size w w1 := hb0.trans (hb1.mono hb0.size)
      go_wp2
      go_ret
      exact ⟨rfl, hbb⟩
  · have hd : decide (n ≤ 14) = true := decide_eq_true (by omega)
    rw [hd, Bool.and_true]
    cases V with
    | false =>
      rw [Bool.false_and]
      go_enter Tryd.func42, Tryd.ntmps42
      go_wp2_with fail
      rw [← Hwx.out]
      refine (Hv.out _ hb0).mono ?_
      rintro e w1 ⟨rfl, hb1⟩
      have hbb : Below w.heap.size w w1 := hb0.trans (hb1.mono hb0.size)
      go_wp2
      go_ret
      exact ⟨rfl, hbb⟩
    | true =>
      rw [Bool.true_and]
      go_enter Tryd.func42, Tryd.ntmps42
      go_wp2_with fail
      rw [← Hwx.out]
      refine (Hv.out _ hb0).mono ?_
      rintro e w1 ⟨rfl, hb1⟩
      have hbb : Below w.heap.size w w1 := hb0.trans (hb1.mono hb0.size)
      replace p0 := (hb1.cell (World.block_lt_of_cell? wx _ p0)).trans p0
      replace p1 := (hb1.cell (World.block_lt_of_cell? wx _ p1)).trans p1
      clear hb0 hb1 Hwx
      go_wp2
      go_loopw [18] (fun iv wr => ∃ k : Nat, k ≤ n ∧ iv = .int .i64 k ∧ Hid ((l.drop k).all (validFact rs) = R) ∧ Below w1.heap.size w1 wr) (fun iv _ => n - (intOf iv).toNat)
      case atStart => exact ⟨0, by omega, by go_num, HR, Below.refl _ _⟩
      case round =>
        clear HR
        obtain ⟨k, hk, rfl, Hq, hbx⟩ := hrel
        have q0 := (hbx.cell (World.block_lt_of_cell? w1 _ p0)).trans p0
        have q1 := (hbx.cell (World.block_lt_of_cell? w1 _ p1)).trans p1
        have hb : Below w.heap.size w wr := hbb.trans (hbx.mono hbb.size)
        clear p0 p1
        by_cases hlt : k < n
        · have hkl : k < l.length := by rw [Hn.out]; exact hlt
          have Hst := Lib.hid (Hq.out.symm.trans (all_drop (validFact rs) l k hkl))
          obtain ⟨b, off, av, cv, rfl, hbB, c0, c1, hx⟩ := Hr.out _ hb k hkl
          have hA : At cFct wr l[k] [.int .i64 l[k].rel, .slice av l[k].vals.length cv] := cFct.keep hx (fun _ _ => rfl) hb.size
          have Hc : Hid (∀ ww, Below wr.heap.size wr ww → Calls Tryd.prog 80 #[.slice a0 nr cap0, .agg #[.int .i64 l[k].rel, .slice av l[k].vals.length cv]] ww fun e w' => e = .returned (.bool (validFact rs l[k])) ∧ Below ww.heap.size ww w') :=
            fun ww hw2 => Hf.out ww (hb.trans (hw2.mono hb.size)) l[k] av cv (At.below hA hw2 (Nat.le_refl _))
          clear hx Hq hA
          generalize validFact rs l[k] = v at *
          generalize l[k] = r at *
          have hlt0 := World.block_lt_of_cell? wr _ q0
          cases v with
          | true =>
            rw [Bool.true_and] at Hst
            go_wp2_with fail
            refine (Hc.out _ ?hb).mono ?_
            case hb => go_grown
            rintro e w2 ⟨rfl, hb2⟩
            have hbr : Below wr.heap.size wr w2 := Below.trans (by go_grown) (hb2.mono (by simp; try omega))
            go_wp2
            go_roundw
            case rel => exact ⟨k + 1, by omega, by go_num, Hst.out.symm, hbx.trans (hbr.mono hbx.size)⟩
            case measure => simp [intOf]; omega
          | false =>
            have hR : R = false := by have h := Hst.out; rw [Bool.false_and] at h; exact h
            go_wp2_with fail
            refine (Hc.out _ ?hb).mono ?_
            case hb => go_grown
            rintro e w2 ⟨rfl, hb2⟩
            have hbr : Below wr.heap.size wr w2 := Below.trans (by go_grown) (hb2.mono (by simp; try omega))
            go_wp2
            go_ret
            exact ⟨by rw [hR]; rfl, hb.trans (hbr.mono hb.size)⟩
        · obtain rfl : k = n := by omega
          have hR : R = true := by
            have := Hq.out
            rw [List.drop_eq_nil_of_le (by rw [Hn.out]; exact Nat.le_refl _)] at this
            exact this.symm
          go_wp2_with fail
          refine (Hs.out _ hb).mono ?_
          rintro e w2 ⟨rfl, hb2⟩
          go_wp2
          go_ret
          exact ⟨by rw [hR]; rfl, hb.trans (hb2.mono hb.size)⟩
end Go.Proofs.YtgipcnofonejcaaDoor
end

section
/- BlkOne: Blk BlkDb. -/
/- Blocks of numbers under a relation: built one by one, and as the classes of their first members. -/
namespace Go.Proofs.YtgipcnofonejcaaDoor
set_option linter.unusedVariables false
/-- Numbers below n that stand with i. -/
def blk (R : Nat → Nat → Bool) (n i : Nat) : List Nat := (List.range n).filter (R i)
/-- No smaller number stands with i. -/
def isFst (R : Nat → Nat → Bool) (i : Nat) : Bool := (List.range i).all fun k => !R i k
def fsts (R : Nat → Nat → Bool) (n : Nat) : List Nat := (List.range n).filter (isFst R)
def blksS (R : Nat → Nat → Bool) (n : Nat) : List (List Nat) := (fsts R n).map (blk R n)
/-- The last list, one number longer. -/
def addLast (bs : List (List Nat)) (i : Nat) : List (List Nat) := bs.set (bs.length - 1) (bs.getD (bs.length - 1) [] ++ [i])
def joins (R : Nat → Nat → Bool) (i : Nat) : Bool := decide (0 < i) && R (i - 1) i
def blksI (R : Nat → Nat → Bool) : Nat → List (List Nat)
  | 0 => []
  | i + 1 => if joins R i then addLast (blksI R i) i else blksI R i ++ [[i]]
structure Conv (R : Nat → Nat → Bool) (N : Nat) : Prop where
  refl : ∀ i, i < N → R i i = true
  symm : ∀ i j, i < N → j < N → R i j = R j i
  trans : ∀ i j k, i < N → j < N → k < N → R i j = true → R j k = true → R i k = true
  mid : ∀ i j k, i < j → j < k → k < N → R i k = true → R j k = true
variable {R : Nat → Nat → Bool} {N : Nat}
theorem Conv.none (h : Conv R N) {n : Nat} (hn : n < N) (hj : joins R n = false) : ∀ i, i < n → R i n = false := by
  intro i hi
  cases hR : R i n
  · rfl
  · have h0 : decide (0 < n) = true := decide_eq_true (by omega)
    unfold joins at hj
    rw [h0, Bool.true_and] at hj
    rcases Nat.lt_or_ge i (n - 1) with h1 | h1
    · rw [h.mid i (n - 1) n h1 (by omega) hn hR] at hj; cases hj
    · have : i = n - 1 := by omega
      subst this; rw [hR] at hj; cases hj
end Go.Proofs.YtgipcnofonejcaaDoor

/- Chapter 5: facts with one key are neighbours in a valid database. -/
namespace Go.Proofs.YtgipcnofonejcaaDoor
open Go.RowKit
set_option linter.unusedVariables false
set_option maxRecDepth 100000

theorem dbValid_len {d : Dbs} (h : validDb d = true) : d.facts.length ≤ 14 := by
  rw [validDb_eq] at h
  simp only [Bool.and_eq_true, decide_eq_true_eq] at h
  exact h.1.2
/-- Two places of one key. -/
def keyR (d : Dbs) (i k : Nat) : Bool := match d.facts[i]?, d.facts[k]? with | some x, some y => sameKey d.rels x y | _, _ => false
theorem keyR_at {d : Dbs} {i k : Nat} (hi : i < d.facts.length) (hk : k < d.facts.length) : keyR d i k = sameKey d.rels d.facts[i] d.facts[k] := by
  unfold keyR
  rw [List.getElem?_eq_getElem hi, List.getElem?_eq_getElem hk]
/-- Places as numbers. -/
def ints (l : List Nat) : List Int := l.map (fun n : Nat => (n : Int))
/-- The block of a place. -/
def blockL (d : Dbs) (i : Int) : List Int := if validDb d && inB i 0 ((d.facts.length : Int) - 1) then ints (blk (keyR d) d.facts.length i.toNat) else []
/-- All blocks. -/
def blocksL (d : Dbs) : List (List Int) := if validDb d then (blksI (keyR d) d.facts.length).map ints else []
end Go.Proofs.YtgipcnofonejcaaDoor
end

section
/- Chapter 3: KeyOf, the model's and the program's; the model's HaveSameKey. -/
namespace Go.Proofs.YtgipcnofonejcaaDoor
open Go.RowKit
set_option linter.unusedVariables false
set_option maxRecDepth 100000

theorem Own.empty {α : Type} {c : Cod α} (B : Nat) (w : World) (a : Option Addr) (cap : Nat) : Own (cSlice c) B w [] [.slice a 0 cap] := ⟨[], ⟨a, cap, rfl, by simp, .inl ⟨rfl, rfl⟩⟩, by simp⟩
theorem row_empty (w : World) (e : TypeId) (base : Nat) (h : base ≤ w.heap.size) : (w.alloc (.cells #[] e)).ownsRow base e 1 (.slice (some ⟨w.heap.size, 0, none⟩) 0 0) 0 [] :=
  ⟨rfl, .inr ⟨w.heap.size, 0, #[], rfl, h, heap_alloc_new w _, by simp, by simp, by simp, by simp⟩⟩

set_option maxHeartbeats 1600000 in
theorem specKeyOf_c {a0 ax : Option Addr} {cap0 cx : Nat} {l : List Rel} {x : Fct} {w : World} (h : At (cSlice cRel) w l [.slice a0 l.length cap0]) (h1 : At cFct w x [.int .i64 x.rel, .slice ax x.vals.length cx]) :
    Calls Tryd.prog 117 #[.slice a0 l.length cap0, .agg #[.int .i64 x.rel, .slice ax x.vals.length cx]] w fun e w' => (∃ a cap, e = .returned (.slice a (keyVals l x).length cap) ∧ Own (cSlice cInt) w.heap.size w' (keyVals l x) [.slice a (keyVals l x).length cap]) ∧ Below w.heap.size w w' := by
  have H1 : Hid (∀ ww, Below w.heap.size w ww → Calls Tryd.prog 70 #[.slice a0 l.length cap0, .agg #[.int .i64 x.rel, .slice ax x.vals.length cx]] ww fun e w' => e = .returned (.bool (validFact l x)) ∧ Below ww.heap.size ww w') :=
    fun ww hb => specIsValidFact_c (At.below h hb (Nat.le_refl _)) (At.below h1 hb (Nat.le_refl _))
  have hX := (cFct_inv h1).1
  have hcx := slice_cap hX
  have Hr : Hid (∀ w' : World, Below w.heap.size w w' → ∀ j (hj : j < l.length), _) := fun w' hb j hj => at_Relation (Cod.ok_below h hb) j hj
  unfold keyVals
  cases hV : validFact l x with
  | false =>
    rw [hV] at H1
    clear h h1 hX hV hcx Hr
    obtain ⟨rx, vx⟩ := x
    simp only at *
    generalize vx.length = n at *
    generalize l.length = nl at *
    go_enter Tryd.func117, Tryd.ntmps117
    go_wp2_with fail
    refine (H1.out _ ?hb).mono ?_
    case hb => go_grown
    rintro e w1 ⟨rfl, hb1⟩
    have hbb : Below w.heap.size w w1 := Below.trans (by go_grown) (hb1.mono (by simp; try omega))
    have ho : ∀ W, Own (cSlice cInt) w.heap.size W [] [.slice (some ⟨w1.heap.size, 0, none⟩) 0 0] := fun W => Own.empty _ _ _ _
    go_wp2
    go_ret
    exact ⟨⟨_, _, rfl, ho _⟩, hbb.trans ((by go_grown : Below w1.heap.size w1 _).mono hbb.size)⟩
  | true =>
    rw [hV] at H1
    obtain ⟨k, p, hk, hrx, hkey, hpl, hl3, hkn, ha1⟩ := validFact_key hV
    have Hs : Hid (∀ ww, Below w.heap.size w ww → Srcs ww 1 ax p ((x.vals.take p).map iv)) := by
      intro ww hb
      have h := srcs_ints (At.below (ints_take hX p hpl) hb (Nat.le_refl _))
      rw [show (x.vals.take p).length = p by simp; omega] at h
      exact h
    have Hg : Hid (∀ y, y ∈ x.vals.take p → inR y) := fun y hy => ints_rng hX y (List.mem_of_mem_take hy)
    rw [if_pos rfl, hrx, hkn, show (x.vals.take p).length = p by simp; omega]
    have Hvt : Hid ((x.vals.take p).length = p) := by show _ = _; simp; omega
    obtain ⟨rx, vx⟩ := x
    simp only at *
    subst hrx
    obtain ⟨n, hn⟩ : ∃ n : Nat, vx.length = n := ⟨_, rfl⟩
    obtain ⟨nl, hnl⟩ : ∃ n : Nat, l.length = n := ⟨_, rfl⟩
    have hkl := hk
    rw [hnl] at hkl H1 ⊢
    rw [hn] at hcx hpl hl3 H1 ⊢
    have Hk := Lib.hid hkey
    clear hV h h1 hX hkn ha1 hkey hn hnl
    generalize hvt : vx.take p = vt at *
    clear hvt
    obtain ⟨wx, hwx⟩ : ∃ wx, wx = w.alloc (Obj.cells #[.int .i64 (k : Int), .slice ax n cx] 102) := ⟨_, rfl⟩
    have hb0 : Below w.heap.size w wx := by rw [hwx]; go_grown
    have p0 : wx.cell? ⟨w.heap.size, 0, none⟩ = some (.int .i64 (k : Int)) := by rw [hwx]; go_simp
    have p1 : wx.cell? ⟨w.heap.size, 1, none⟩ = some (.slice ax n cx) := by rw [hwx]; go_simp
    have Hwx := Lib.hid hwx
    clear hwx
    obtain ⟨i0, hi, hz0, hz1, hz2⟩ := info_parts Tryd.infoI
    have i0' : (0 : Int) ≤ (p : Int) := Int.natCast_nonneg _
    have i1' : (p : Int) ≤ (cx : Int) := by omega
    go_enter Tryd.func117, Tryd.ntmps117
    go_wp2_with fail
    rw [← Hwx.out]
    clear Hwx
    refine (H1.out _ hb0).mono ?_
    rintro e w1 ⟨rfl, hb1⟩
    have hbb : Below w.heap.size w w1 := hb0.trans (hb1.mono hb0.size)
    replace p0 := (hb1.cell (World.block_lt_of_cell? wx _ p0)).trans p0
    replace p1 := (hb1.cell (World.block_lt_of_cell? wx _ p1)).trans p1
    obtain ⟨b, off, rfl, hbB, c0, c1, c2, hx⟩ := Hr.out _ hbb k hk
    rw [Hk.out] at c2
    have l0 := World.block_lt_of_cell? w1 _ p0
    have l2 := World.block_lt_of_cell? w1 _ c2
    clear c0 c1 hx Hk Hr H1 hb0 hb1
    go_wp2_with fail
    go_region_held3 (fun w' => w'.cell? ⟨w.heap.size, 0, none⟩ = some (.int .i64 (k : Int)) ∧ w'.cell? ⟨w.heap.size, 1, none⟩ = some (.slice ax n cx) ∧ w'.cell? ⟨b, off + k * 3 + 2, none⟩ = some (.int .i64 (p : Int)))
      (first | go_keep | (have hb2 : Below w1.heap.size w1 w2 := Below.grown (B := w1.heap.size) (a := w1) (Below.drew (by go_grown)) hg1 (by simp) (fun k hk => by simp [Value.ownBlock] at hk; omega); go_split_ands; exact ⟨cell_next p0 hb2, cell_next p1 hb2, cell_next c2 hb2⟩))
      ((refine step_app (by rfl) _ _ _ (by rfl) w.heap.size 3 i0 _ 1 8 Tryd.underlying46 hi hz0 hz1 hz2 rfl (by omega) (.slice (some ⟨w1.heap.size, 0, none⟩) 0 0) 0 [] (by rfl) (by exact row_empty _ _ _ hbb.size) ax p cx (vt.map iv) (by rfl) (by exact Hs.out _ (Below.drew (hbb.trans (by go_grown)))) (by unfold maxLen; omega) (by omega) (by simp; exact Nat.le_trans hbb.size (by omega)) ?_; intro v1 w2 hown1 hg1 hat1))
    have hb2 : Below w1.heap.size w1 w2 := Below.grown (B := w1.heap.size) (a := w1) (Below.drew (by go_grown)) hg1 (by simp) (fun k hk => by simp [Value.ownBlock] at hk; omega)
    have hown2 : w2.ownsRow w.heap.size 3 1 v1 p (vt.map iv) := by simpa using hown1
    have ho := own_ints hown2 Hg.out
    have hv : ∃ a' cap', v1 = .slice a' p cap' := by
      rcases hown2.2 with ⟨rfl, h0⟩ | ⟨g, cp, cur, rfl, _⟩
      · exact ⟨none, 0, by rw [h0]⟩
      · exact ⟨_, _, rfl⟩
    obtain ⟨a', cap', rfl⟩ := hv
    clear hown1 hown2 hg1 hat1 hi hz0 hz1 hz2
    go_wp2
    go_ret
    exact ⟨⟨_, _, rfl, ho⟩, hbb.trans (hb2.mono hbb.size)⟩

set_option maxHeartbeats 3200000 in
theorem specHaveSameKey_c {a0 ax ay : Option Addr} {cap0 cx cy : Nat} {l : List Rel} {x y : Fct} {w : World} (h : At (cSlice cRel) w l [.slice a0 l.length cap0]) (h1 : At cFct w x [.int .i64 x.rel, .slice ax x.vals.length cx]) (h2 : At cFct w y [.int .i64 y.rel, .slice ay y.vals.length cy]) :
    Calls Tryd.prog 75 #[.slice a0 l.length cap0, .agg #[.int .i64 x.rel, .slice ax x.vals.length cx], .agg #[.int .i64 y.rel, .slice ay y.vals.length cy]] w fun e w' => e = .returned (.bool (haveKey l x y)) ∧ Below w.heap.size w w' := by
  have HB : haveKey l x y = (validFact l x && (validFact l y && (decide (x.rel = y.rel) && (cmpL (keyVals l x) (keyVals l y) == 0)))) := by
    unfold haveKey sameKey keyVals
    cases hx : validFact l x <;> cases hy : validFact l y <;> simp
    by_cases hr : x.rel = y.rel
    · rw [hr]
      have : ∀ a b : List Int, decide (a = b) = (cmpL a b == 0) := fun a b => by
        by_cases h : a = b
        · rw [decide_eq_true h, (cmpL_zero a b).2 h]; rfl
        · have h2 : cmpL a b ≠ 0 := fun h3 => h ((cmpL_zero a b).1 h3)
          rw [decide_eq_false h]; simp [h2]
      rw [this]
    · simp [hr]
  have H1 : Hid (∀ ww, Below w.heap.size w ww → Calls Tryd.prog 70 #[.slice a0 l.length cap0, .agg #[.int .i64 x.rel, .slice ax x.vals.length cx]] ww fun e w' => e = .returned (.bool (validFact l x)) ∧ Below ww.heap.size ww w') :=
    fun ww hb => specIsValidFact_c (At.below h hb (Nat.le_refl _)) (At.below h1 hb (Nat.le_refl _))
  have H2 : Hid (∀ ww, Below w.heap.size w ww → Calls Tryd.prog 70 #[.slice a0 l.length cap0, .agg #[.int .i64 y.rel, .slice ay y.vals.length cy]] ww fun e w' => e = .returned (.bool (validFact l y)) ∧ Below ww.heap.size ww w') :=
    fun ww hb => specIsValidFact_c (At.below h hb (Nat.le_refl _)) (At.below h2 hb (Nat.le_refl _))
  have K1 : Hid (∀ ww, Below w.heap.size w ww → Calls Tryd.prog 117 #[.slice a0 l.length cap0, .agg #[.int .i64 x.rel, .slice ax x.vals.length cx]] ww fun e w' => (∃ a cap, e = .returned (.slice a (keyVals l x).length cap) ∧ Own (cSlice cInt) ww.heap.size w' (keyVals l x) [.slice a (keyVals l x).length cap]) ∧ Below ww.heap.size ww w') :=
    fun ww hb => specKeyOf_c (At.below h hb (Nat.le_refl _)) (At.below h1 hb (Nat.le_refl _))
  have K2 : Hid (∀ ww, Below w.heap.size w ww → Calls Tryd.prog 117 #[.slice a0 l.length cap0, .agg #[.int .i64 y.rel, .slice ay y.vals.length cy]] ww fun e w' => (∃ a cap, e = .returned (.slice a (keyVals l y).length cap) ∧ Own (cSlice cInt) ww.heap.size w' (keyVals l y) [.slice a (keyVals l y).length cap]) ∧ Below ww.heap.size ww w') :=
    fun ww hb => specKeyOf_c (At.below h hb (Nat.le_refl _)) (At.below h2 hb (Nat.le_refl _))
  have K3 : Hid (∀ ww a a' c c', At (cSlice cInt) ww (keyVals l x) [.slice a (keyVals l x).length c] → At (cSlice cInt) ww (keyVals l y) [.slice a' (keyVals l y).length c'] → Calls Tryd.prog 114 #[.slice a (keyVals l x).length c, .slice a' (keyVals l y).length c'] ww fun e w' => e = .returned (.int .i64 (cmpL (keyVals l x) (keyVals l y))) ∧ Below ww.heap.size ww w') :=
    fun ww a a' c c' hA hB => specl3Ints_c hA hB
  rw [HB]
  clear h h1 h2 HB
  generalize validFact l x = V at *
  generalize validFact l y = U at *
  generalize keyVals l x = kx at *
  generalize keyVals l y = ky at *
  generalize cmpL kx ky = z at *
  obtain ⟨rx, vx⟩ := x
  obtain ⟨ry, vy⟩ := y
  simp only at *
  generalize vx.length = n at *
  generalize vy.length = m at *
  generalize l.length = nl at *
  obtain ⟨wx, hwx⟩ : ∃ wx, wx = (w.alloc (Obj.cells #[.int .i64 rx, .slice ax n cx] 102)).alloc (Obj.cells #[.int .i64 ry, .slice ay m cy] 102) := ⟨_, rfl⟩
  have hb0 : Below w.heap.size w wx := by rw [hwx]; go_grown
  have p0 : wx.cell? ⟨w.heap.size, 0, none⟩ = some (.int .i64 rx) := by rw [hwx]; go_simp
  have p1 : wx.cell? ⟨w.heap.size, 1, none⟩ = some (.slice ax n cx) := by rw [hwx]; go_simp
  have r0 : wx.cell? ⟨w.heap.size + 1, 0, none⟩ = some (.int .i64 ry) := by rw [hwx]; go_simp
  have r1 : wx.cell? ⟨w.heap.size + 1, 1, none⟩ = some (.slice ay m cy) := by rw [hwx]; go_simp
  have Hwx := Lib.hid hwx
  clear hwx
  have P0 := grow_cell p0
  have P1 := grow_cell p1
  have R0 := grow_cell r0
  have R1 := grow_cell r1
  have hfin : Hid (∀ (b : Bool) (nq : Grow wx), ∃ w', w' = nq.W ∧ Below w.heap.size w w') := fun b nq => ⟨_, rfl, hb0.trans (nq.below.mono hb0.size)⟩
  cases V with
  | false =>
    rw [Bool.false_and]
    clear p0 p1 r0 r1
    go_enter Tryd.func75, Tryd.ntmps75
    go_wp2_with fail
    rw [← Hwx.out]
    refine wp_region_grow (by kernel_rfl) (by kernel_rfl) ?_
    repeat (go_big_quiet_step ((go_at_call 70; exact Calls.grow fun ww h => H1.out ww (hb0.trans (h.mono hb0.size)))))
    refine wpQuiet_nil ?_
    rintro _ ⟨nq, rfl⟩
    go_wp2
    go_ret
    exact ⟨rfl, hb0.trans (nq.below.mono hb0.size)⟩
  | true =>
    rw [Bool.true_and]
    cases U with
    | false =>
      rw [Bool.false_and]
      clear p0 p1 r0 r1
      go_enter Tryd.func75, Tryd.ntmps75
      go_wp2_with fail
      rw [← Hwx.out]
      refine wp_region_grow (by kernel_rfl) (by kernel_rfl) ?_
      repeat (go_big_quiet_step (first | ((go_at_call_of 70 (Value.agg #[.int .i64 rx, .slice ax n cx])); exact Calls.grow fun ww h => H1.out ww (hb0.trans (h.mono hb0.size))) | ((go_at_call_of 70 (Value.agg #[.int .i64 ry, .slice ay m cy])); exact Calls.grow fun ww h => H2.out ww (hb0.trans (h.mono hb0.size)))))
      refine wpQuiet_nil ?_
      rintro _ ⟨nq, rfl⟩
      go_wp2
      go_ret
      exact ⟨rfl, hb0.trans (nq.below.mono hb0.size)⟩
    | true =>
      rw [Bool.true_and]
      by_cases hr : rx = ry
      · subst hr
        rw [decide_eq_true rfl, Bool.true_and]
        clear P0 P1 R0 R1 hfin
        have hbb := hb0
        clear hb0
        go_enter Tryd.func75, Tryd.ntmps75
        go_wp2_with fail
        rw [← Hwx.out]
        clear Hwx
        go_region_held3 (fun w' => w'.cell? ⟨w.heap.size, 0, none⟩ = some (.int .i64 rx) ∧ w'.cell? ⟨w.heap.size, 1, none⟩ = some (.slice ax n cx) ∧ w'.cell? ⟨w.heap.size + 1, 0, none⟩ = some (.int .i64 rx) ∧ w'.cell? ⟨w.heap.size + 1, 1, none⟩ = some (.slice ay m cy))
          (first | go_keep | (go_split_ands; exact ⟨p0, p1, r0, r1⟩))
          (first
            | (go_at_call_of 70 (Value.agg #[.int .i64 rx, .slice ax n cx]); refine (H1.out _ (by first | exact hbb | exact hbb.drew | exact Below.drewN' hbb _)).mono ?_; rintro e wy ⟨rfl, hb⟩; replace p0 := cell_next p0 hb; replace p1 := cell_next p1 hb; replace r0 := cell_next r0 hb; replace r1 := cell_next r1 hb; (try replace sx := At.next sx hb); replace hbb := Below.next hbb hb; clear hb)
            | (go_at_call_of 70 (Value.agg #[.int .i64 rx, .slice ay m cy]); refine (H2.out _ (by first | exact hbb | exact hbb.drew | exact Below.drewN' hbb _)).mono ?_; rintro e wy ⟨rfl, hb⟩; replace p0 := cell_next p0 hb; replace p1 := cell_next p1 hb; replace r0 := cell_next r0 hb; replace r1 := cell_next r1 hb; (try replace sx := At.next sx hb); replace hbb := Below.next hbb hb; clear hb)
            | (go_at_call_of 117 (Value.agg #[.int .i64 rx, .slice ax n cx]); refine (K1.out _ (by first | exact hbb | exact hbb.drew | exact Below.drewN' hbb _)).mono ?_; rintro e wy ⟨⟨ka, kc, rfl, q⟩, hb⟩; have sx := q.at; clear q; replace p0 := cell_next p0 hb; replace p1 := cell_next p1 hb; replace r0 := cell_next r0 hb; replace r1 := cell_next r1 hb; replace hbb := Below.next hbb hb; clear hb)
            | (go_at_call_of 117 (Value.agg #[.int .i64 rx, .slice ay m cy]); refine (K2.out _ (by first | exact hbb | exact hbb.drew | exact Below.drewN' hbb _)).mono ?_; rintro e wy ⟨⟨ka, kc, rfl, q⟩, hb⟩; have sy := q.at; clear q; replace p0 := cell_next p0 hb; replace p1 := cell_next p1 hb; replace r0 := cell_next r0 hb; replace r1 := cell_next r1 hb; (try replace sx := At.next sx hb); replace hbb := Below.next hbb hb; clear hb)
            | (go_at_call 114; refine (K3.out _ _ _ _ _ (At.here sx) (At.here sy)).mono ?_; rintro e wy ⟨rfl, hb⟩; replace p0 := cell_next p0 hb; replace p1 := cell_next p1 hb; replace r0 := cell_next r0 hb; replace r1 := cell_next r1 hb; replace hbb := Below.next hbb hb; clear hb))
        all_goals
          go_wp2
          go_ret
          exact ⟨by first | rfl | simp, hbb⟩
      · have hre : (rx == ry) = false := by simp [hr]
        rw [decide_eq_false hr, Bool.false_and]
        clear p0 p1 r0 r1 hr
        go_enter Tryd.func75, Tryd.ntmps75
        go_wp2_with fail
        rw [← Hwx.out]
        refine wp_region_grow (by kernel_rfl) (by kernel_rfl) ?_
        repeat (go_big_quiet_step (first | ((go_at_call_of 70 (Value.agg #[.int .i64 rx, .slice ax n cx])); exact Calls.grow fun ww h => H1.out ww (hb0.trans (h.mono hb0.size))) | ((go_at_call_of 70 (Value.agg #[.int .i64 ry, .slice ay m cy])); exact Calls.grow fun ww h => H2.out ww (hb0.trans (h.mono hb0.size)))))
        refine wpQuiet_nil ?_
        rintro _ ⟨nq, rfl⟩
        go_wp2
        go_ret
        exact ⟨rfl, hb0.trans (nq.below.mono hb0.size)⟩
end Go.Proofs.YtgipcnofonejcaaDoor
end

section
/- Slices of slices that are being built: each finished element with memory of its own. -/
namespace Go.Proofs.YtgipcnofonejcaaDoor
open Go.RowKit
set_option linter.unusedVariables false
set_option maxRecDepth 100000

/-- The list l stands in the slice v of the call's own: its row and what lies behind it lies between w0 and H. -/
def Bld (w0 H : Nat) (w : World) (v : Value) (l : List (List Int)) (F : List Nat) (css : List (List Value)) : Prop :=
  ownL (cSlice cInt) F w l css ∧ w.ownsRow w0 46 1 v l.length css.flatten ∧ (∀ k, k ∈ F → w0 ≤ k ∧ k < H ∧ v.ownBlock ≠ some k) ∧ (∀ g, v.ownBlock = some g → g < H) ∧ H ≤ w.heap.size
theorem ownsRow_at {base C : Nat} {w w' : World} {e : TypeId} {sz : Nat} {v : Value} {n : Nat} {xs : List Value} (h : w.ownsRow base e sz v n xs) (hv : ∀ g, v.ownBlock = some g → w'.heap[g]? = w.heap[g]?) : w'.ownsRow base e sz v n xs := by
  refine ⟨h.1, ?_⟩
  rcases h.2 with h0 | ⟨g, cap, cur, rfl, hb, hg, hrest⟩
  · exact .inl h0
  · exact .inr ⟨g, cap, cur, rfl, hb, (hv g rfl).trans hg, hrest⟩
theorem Bld.below {w0 H C : Nat} {w w' : World} {v : Value} {l : List (List Int)} {F : List Nat} {css : List (List Value)} (h : Bld w0 H w v l F css) (hb : Below C w w') (hC : H ≤ C) (hs : w.heap.size ≤ w'.heap.size) : Bld w0 H w' v l F css := by
  obtain ⟨h1, h2, h3, h4, h5⟩ := h
  exact ⟨ownL_keep h1 (fun k hk => hb.block k (by have := (h3 k hk).2.1; omega)), ownsRow_at (C := C) h2 (fun g hg => hb.block g (by have := h4 g hg; omega)), h3, h4, by omega⟩
theorem Bld.next {w0 H : Nat} {w w' : World} {v : Value} {l : List (List Int)} {F : List Nat} {css : List (List Value)} (h : Bld w0 H w v l F css) (hb : Below w.heap.size w w') : Bld w0 H w' v l F css := h.below hb h.2.2.2.2 hb.size
theorem Bld.wide {w0 H H' : Nat} {w : World} {v : Value} {l : List (List Int)} {F : List Nat} {css : List (List Value)} (h : Bld w0 H w v l F css) (h1 : H ≤ H') (h2 : H' ≤ w.heap.size) : Bld w0 H' w v l F css := by
  obtain ⟨a, b, c, d, e⟩ := h
  exact ⟨a, b, fun k hk => ⟨(c k hk).1, by have := (c k hk).2.1; omega, (c k hk).2.2⟩, fun g hg => by have := d g hg; omega, h2⟩
end Go.Proofs.YtgipcnofonejcaaDoor
end

section
/- BlockOne: Block1 Block2 Lst Block3. -/
/- Chapter 5: the model's BlockOf. -/
namespace Go.Proofs.YtgipcnofonejcaaDoor
open Go.RowKit
set_option linter.unusedVariables false
set_option maxRecDepth 100000

/-- A row grown by one number. -/
theorem own_push {w w' : World} {base : Nat} {e : TypeId} {v' : Value} {n : Nat} {l : List Int} {x : Int} (h : w'.ownsRow base e 1 v' (n + 1) (l.map iv ++ [.int .i64 x])) : w'.ownsRow base e 1 v' (l ++ [x]).length ((l ++ [x]).map iv) := by
  have hn := h.1
  simp at hn
  rw [List.map_append, List.length_append, List.length_singleton]
  subst hn
  exact h
/-- What stands of the block behind k rounds. -/
def blkPart (d : Dbs) (i k : Nat) : List Int := ints ((List.range k).filter (keyR d i))
end Go.Proofs.YtgipcnofonejcaaDoor

/- Chapter 5: the model's Blocks. -/
namespace Go.Proofs.YtgipcnofonejcaaDoor
open Go.RowKit
set_option linter.unusedVariables false
set_option maxRecDepth 100000

/-- What stands of the blocks behind k rounds. -/
def blksPart (d : Dbs) (k : Nat) : List (List Int) := ((List.range k).filter (isFst (keyR d))).map fun i => ints (blk (keyR d) d.facts.length i)
end Go.Proofs.YtgipcnofonejcaaDoor

/- Slices of slices whose last element still grows. -/
namespace Go.Proofs.YtgipcnofonejcaaDoor
open Go.RowKit
set_option linter.unusedVariables false
set_option maxRecDepth 100000

/-- A slice of the call's own: finished slices, and a last one that still grows. -/
def Lst (w0 : Nat) (w : World) (gv cv : Nat) (P : List (List Int)) (q : List Int) (gh ch : Nat) (F : List Nat) (css : List (List Value)) : Prop :=
  ownL (cSlice cInt) F w P css ∧ w.ownsRow w0 46 1 (.slice (some ⟨gv, 0, none⟩) (P.length + 1) cv) (P.length + 1) (css.flatten ++ [.slice (some ⟨gh, 0, none⟩) q.length ch]) ∧
    w.ownsRow w0 3 1 (.slice (some ⟨gh, 0, none⟩) q.length ch) q.length (q.map iv) ∧ (∀ k, k ∈ F → w0 ≤ k ∧ k < w.heap.size ∧ k ≠ gv ∧ k ≠ gh) ∧ gv ≠ gh
theorem own_at {w : World} {base g : Nat} {e : TypeId} {n cap : Nat} {l : List Int} (h : w.ownsRow base e 1 (.slice (some ⟨g, 0, none⟩) n cap) n (l.map iv)) (hr : ∀ x, x ∈ l → inR x) (hm : l.length ≤ maxLen) : (cSlice cInt).own [g] w l [.slice (some ⟨g, 0, none⟩) n cap] := by
  have hn : l.length = n := by simpa using h.1
  subst hn
  exact slice_of_ownL (c := cInt) (F := []) (css := l.map fun x => [iv x]) (ownL_flat (c := cInt) (fun x => [iv x]) w l (fun x hx => ⟨⟨rfl, hr x hx⟩, rfl⟩)) (by rw [flat_ints]; exact h) (by simp) hm
theorem own_some {w : World} {base : Nat} {e : TypeId} {v : Value} {n : Nat} {xs : List Value} (h : w.ownsRow base e 1 v (n + 1) xs) : ∃ g cap, v = .slice (some ⟨g, 0, none⟩) (n + 1) cap := by
  rcases h.2 with ⟨_, h0⟩ | ⟨g, cp, cur, rfl, _⟩
  · omega
  · exact ⟨_, _, rfl⟩
theorem Lst.keep {w0 : Nat} {w w' : World} {gv cv gh ch : Nat} {P : List (List Int)} {q : List Int} {F : List Nat} {css : List (List Value)} (h : Lst w0 w gv cv P q gh ch F css) (hb : ∀ k, k < w.heap.size → w'.heap[k]? = w.heap[k]?) (hs : w.heap.size ≤ w'.heap.size) : Lst w0 w' gv cv P q gh ch F css := by
  obtain ⟨h1, h2, h3, h4, h5⟩ := h
  exact ⟨ownL_keep h1 (fun k hk => hb k (h4 k hk).2.1), ownsRow_at (C := 0) h2 (fun g hg => hb g (h2.lt g hg).2), ownsRow_at (C := 0) h3 (fun g hg => hb g (h3.lt g hg).2), fun k hk => ⟨(h4 k hk).1, by have := (h4 k hk).2.1; omega, (h4 k hk).2.2⟩, h5⟩
theorem Lst.next {w0 : Nat} {w w' : World} {gv cv gh ch : Nat} {P : List (List Int)} {q : List Int} {F : List Nat} {css : List (List Value)} (h : Lst w0 w gv cv P q gh ch F css) (hb : Below w.heap.size w w') : Lst w0 w' gv cv P q gh ch F css := h.keep (fun k hk => hb.block k hk) hb.size
theorem Lst.flat {w0 : Nat} {w : World} {gv cv gh ch : Nat} {P : List (List Int)} {q : List Int} {F : List Nat} {css : List (List Value)} (h : Lst w0 w gv cv P q gh ch F css) : css.flatten.length = P.length := by
  have := (ownL_len h.1).2
  simpa [cSlice] using this
/-- The header of the last one. -/
theorem Lst.head {w0 : Nat} {w : World} {gv cv gh ch : Nat} {P : List (List Int)} {q : List Int} {F : List Nat} {css : List (List Value)} (h : Lst w0 w gv cv P q gh ch F css) : w.cell? ⟨gv, P.length, none⟩ = some (.slice (some ⟨gh, 0, none⟩) q.length ch) ∧ w.frozen? ⟨gv, P.length, none⟩ = false := by
  have hf := h.flat
  refine ⟨(h.2.1.cellAt P.length (by omega)).trans ?_, h.2.1.frozenAt _⟩
  rw [List.getElem?_append_right (by omega), hf, Nat.sub_self]; rfl
theorem Lst.own {w0 : Nat} {w : World} {gv cv gh ch : Nat} {P : List (List Int)} {q : List Int} {F : List Nat} {css : List (List Value)} (h : Lst w0 w gv cv P q gh ch F css) (hr : ∀ x, x ∈ q → inR x) (hq : q.length ≤ maxLen) (hP : P.length + 1 ≤ maxLen) : Own (cSlice (cSlice cInt)) w0 w (P ++ [q]) [.slice (some ⟨gv, 0, none⟩) (P ++ [q]).length cv] := by
  obtain ⟨h1, h2, h3, h4, h5⟩ := h
  have hg := (h3.lt gh rfl)
  have hl : (P ++ [q]).length = P.length + 1 := by simp
  refine Own.slice (c := cSlice cInt) (F := F ++ [gh]) (css := css ++ [[.slice (some ⟨gh, 0, none⟩) q.length ch]]) (base := w0) (e := 46) (ownL_snoc (own_at h3 hr hq) h1 (fun k hk => by simp; exact (h4 k hk).2.2.2)) ?_ (fun k hk => ?_) (by omega)
  · rw [hl, List.flatten_append]
    simpa [cSlice] using h2
  · rcases List.mem_append.1 hk with hk | hk
    · exact ⟨(h4 k hk).1, (h4 k hk).2.1, (h4 k hk).2.2.1⟩
    · simp at hk
      subst hk
      exact ⟨hg.1, hg.2, fun e => h5 e.symm⟩
/-- The last one has grown by a number, and its header is written. -/
theorem Lst.grow {w0 : Nat} {W w3 : World} {gv cv gh ch : Nat} {P : List (List Int)} {q : List Int} {F : List Nat} {css : List (List Value)} {v' : Value} {x : Int} (h : Lst w0 W gv cv P q gh ch F css) (h0 : w0 ≤ W.heap.size)
    (hown : w3.ownsRow w0 3 1 v' (q.length + 1) (q.map iv ++ [.int .i64 x])) (hg : W.grownBy w3 (some gh)) (hat : v'.ownBlock = some gh ∨ v'.ownBlock = some W.heap.size) :
    w3.cell? ⟨gv, P.length, none⟩ = some (.slice (some ⟨gh, 0, none⟩) q.length ch) ∧ w3.frozen? ⟨gv, P.length, none⟩ = false ∧ ∃ gh' ch', v' = .slice (some ⟨gh', 0, none⟩) (q.length + 1) ch' ∧ Lst w0 (w3.setCell ⟨gv, P.length, none⟩ v') gv cv P (q ++ [x]) gh' ch' F css := by
  have hd := h.head
  have hfl := h.flat
  obtain ⟨h1, h2, h3, h4, h5⟩ := h
  have hv := h2.lt gv rfl
  have hh := h3.lt gh rfl
  have hs := hg.size
  have hkeep : ∀ k, k < W.heap.size → k ≠ gh → w3.heap[k]? = W.heap[k]? := fun k hk hne => hg.block k hk (fun e => hne (by injection e))
  have hvv := hkeep gv hv.2 h5
  refine ⟨(World.cell?_of_block hvv).trans hd.1, (World.frozen?_of_block hvv).trans hd.2, ?_⟩
  obtain ⟨gh', ch', rfl⟩ := own_some hown
  have hat' : gh' = gh ∨ gh' = W.heap.size := by
    rcases hat with e | e
    · left; simpa [Value.ownBlock] using e
    · right; simpa [Value.ownBlock] using e
  have hne : gv ≠ gh' := by rcases hat' with rfl | rfl <;> omega
  have hset : ∀ k, k ≠ gv → (w3.setCell ⟨gv, P.length, none⟩ (.slice (some ⟨gh', 0, none⟩) (q.length + 1) ch')).heap[k]? = w3.heap[k]? := fun k hk => Below.heap_setCell _ _ _ _ hk
  have hsz : (w3.setCell ⟨gv, P.length, none⟩ (.slice (some ⟨gh', 0, none⟩) (q.length + 1) ch')).heap.size = w3.heap.size := by simp [World.setCell]
  refine ⟨gh', ch', rfl, ownL_keep h1 (fun k hk => (hset k (h4 k hk).2.2.1).trans (hkeep k (h4 k hk).2.1 (h4 k hk).2.2.2)), ?_, ?_, fun k hk => ⟨(h4 k hk).1, by rw [hsz]; have := (h4 k hk).2.1; omega, (h4 k hk).2.2.1, ?_⟩, hne⟩
  · have h6 := (ownsRow_at (C := 0) h2 (fun g hg2 => by have : g = gv := by simpa [Value.ownBlock] using hg2.symm
                                                        subst this; exact hvv)).stored P.length (.slice (some ⟨gh', 0, none⟩) (q.length + 1) ch')
    have h7 := h6.1
    rw [List.set_append_right _ _ (by omega), hfl, Nat.sub_self, List.set_cons_zero] at h7
    simpa using h7
  · have h8 := own_push (w := w3) hown
    rw [List.length_append, List.length_singleton] at h8 ⊢
    exact ownsRow_at (C := 0) h8 (fun g hg2 => hset g (fun e => hne (by have : g = gh' := by simpa [Value.ownBlock] using hg2.symm
                                                                        omega)))
  · rcases hat' with rfl | rfl
    · exact (h4 k hk).2.2.2
    · have := (h4 k hk).2.1; omega
/-- A first slice, of one number. -/
theorem Lst.first {w0 : Nat} {W w3 : World} {x : Int} {v' : Value} {g : Nat} (hrow : W.ownsRow w0 3 1 (.slice (some ⟨g, 0, none⟩) 1 1) 1 [.int .i64 x]) (hown : w3.ownsRow w0 46 1 v' 1 [.slice (some ⟨g, 0, none⟩) 1 1]) (hg : W.grownBy w3 none) (hat : v'.ownBlock = none ∨ v'.ownBlock = some W.heap.size) :
    ∃ gv cv, v' = .slice (some ⟨gv, 0, none⟩) 1 cv ∧ Lst w0 w3 gv cv [] [x] g 1 [] [] := by
  obtain ⟨gv, cv, rfl⟩ := own_some (n := 0) hown
  have hh := hrow.lt g rfl
  have hv : gv = W.heap.size := by
    rcases hat with e | e
    · simp [Value.ownBlock] at e
    · simpa [Value.ownBlock] using e
  exact ⟨gv, cv, rfl, rfl, hown, ownsRow_at (C := 0) hrow (fun q hq => by have : q = g := by simpa [Value.ownBlock] using hq.symm
                                                                          subst this; exact hg.block _ hh.2 (by simp)), by simp, by omega⟩
/-- One slice more, of one number. -/
theorem Lst.more {w0 : Nat} {W w3 : World} {gv cv gh ch : Nat} {P : List (List Int)} {q : List Int} {F : List Nat} {css : List (List Value)} {x : Int} {v' : Value} {g : Nat} (h : Lst w0 W gv cv P q gh ch F css) (hr : ∀ x, x ∈ q → inR x) (hq : q.length ≤ maxLen)
    (hrow : W.ownsRow w0 3 1 (.slice (some ⟨g, 0, none⟩) 1 1) 1 [.int .i64 x]) (hgn : g ≠ gv ∧ g ≠ gh ∧ ∀ k, k ∈ F → k ≠ g) (hown : w3.ownsRow w0 46 1 v' (P.length + 1 + 1) ((css.flatten ++ [.slice (some ⟨gh, 0, none⟩) q.length ch]) ++ [.slice (some ⟨g, 0, none⟩) 1 1]))
    (hg : W.grownBy w3 (some gv)) (hat : v'.ownBlock = some gv ∨ v'.ownBlock = some W.heap.size) :
    ∃ gv' cv', v' = .slice (some ⟨gv', 0, none⟩) (P.length + 1 + 1) cv' ∧ Lst w0 w3 gv' cv' (P ++ [q]) [x] g 1 (F ++ [gh]) (css ++ [[.slice (some ⟨gh, 0, none⟩) q.length ch]]) := by
  obtain ⟨h1, h2, h3, h4, h5⟩ := h
  obtain ⟨gv', cv', rfl⟩ := own_some hown
  have hh := h3.lt gh rfl
  have hv := h2.lt gv rfl
  have hx := hrow.lt g rfl
  have hs := hg.size
  have hat' : gv' = gv ∨ gv' = W.heap.size := by
    rcases hat with e | e
    · left; simpa [Value.ownBlock] using e
    · right; simpa [Value.ownBlock] using e
  have hkeep : ∀ k, k < W.heap.size → k ≠ gv → w3.heap[k]? = W.heap[k]? := fun k hk hne => hg.block k hk (fun e => hne (by injection e))
  refine ⟨gv', cv', rfl, ownL_keep (ownL_snoc (own_at h3 hr hq) h1 (fun k hk => by simp; exact (h4 k hk).2.2.2)) (fun k hk => ?_), ?_, ownsRow_at (C := 0) hrow (fun p hp => ?_), fun k hk => ?_, ?_⟩
  · rcases List.mem_append.1 hk with hk | hk
    · exact hkeep k (h4 k hk).2.1 (h4 k hk).2.2.1
    · simp at hk; subst hk; exact hkeep _ hh.2 (fun e => h5 e.symm)
  · rw [List.length_append, List.length_singleton, List.flatten_append]
    simpa using hown
  · have : p = g := by simpa [Value.ownBlock] using hp.symm
    subst this
    exact hkeep _ hx.2 hgn.1
  · rcases List.mem_append.1 hk with hk | hk
    · refine ⟨(h4 k hk).1, by have := (h4 k hk).2.1; omega, ?_, hgn.2.2 k hk⟩
      rcases hat' with rfl | rfl
      · exact (h4 k hk).2.2.1
      · have := (h4 k hk).2.1; omega
    · simp at hk
      subst hk
      refine ⟨hh.1, by omega, ?_, fun e => hgn.2.1 e.symm⟩
      rcases hat' with rfl | rfl
      · exact fun e => h5 e.symm
      · omega
  · rcases hat' with rfl | rfl
    · exact fun e => hgn.1 e.symm
    · omega
end Go.Proofs.YtgipcnofonejcaaDoor

/- Chapter 5: the program's Blocks. -/
namespace Go.Proofs.YtgipcnofonejcaaDoor
open Go.RowKit
set_option linter.unusedVariables false
set_option maxRecDepth 100000

/-- The program's blocks behind k rounds. -/
def bI (d : Dbs) (k : Nat) : List (List Int) := (blksI (keyR d) k).map ints
end Go.Proofs.YtgipcnofonejcaaDoor
end

section
/- BlockTwo: Block5 Block6 Block7 Block8. -/
/- Chapter 5: ConflictingFacts, the model's and the program's. -/
namespace Go.Proofs.YtgipcnofonejcaaDoor
open Go.RowKit
set_option linter.unusedVariables false
set_option maxRecDepth 100000

/-- What stands of the facts in conflict behind k rounds. -/
def confPart (d : Dbs) (k : Nat) : List Int := ints ((List.range k).filter fun i => decide (1 < (blk (keyR d) d.facts.length i).length))
/-- The facts in conflict. -/
def confL (d : Dbs) : List Int := if validDb d then confPart d d.facts.length else []

end Go.Proofs.YtgipcnofonejcaaDoor
namespace Go.Proofs.YtgipcnofonejcaaDoor
open Go.RowKit
set_option linter.unusedVariables false
set_option maxRecDepth 100000
/-- The program's facts in conflict behind j blocks. -/
def cfPart (L : List (List Int)) (j : Nat) : List Int := ((L.take j).filter fun b => decide (1 < b.length)).flatten
/-- A valid database without conflicts. -/
def consistent (d : Dbs) : Bool := validDb d && decide ((blocksL d).length = d.facts.length)
end Go.Proofs.YtgipcnofonejcaaDoor
namespace Go.Proofs.YtgipcnofonejcaaDoor
open Go.RowKit
set_option linter.unusedVariables false
set_option maxRecDepth 100000
/-- The blocks' sizes. -/
def sizesL (d : Dbs) : List Int := (blocksL d).map fun b => (b.length : Int)
def szPart (L : List (List Int)) (k : Nat) : List Int := (L.take k).map fun b => (b.length : Int)
end Go.Proofs.YtgipcnofonejcaaDoor
namespace Go.Proofs.YtgipcnofonejcaaDoor
open Go.RowKit
set_option linter.unusedVariables false
set_option maxRecDepth 100000
/-- The product of the first k numbers. -/
def prodP (l : List Int) (k : Nat) : Int := (l.take k).foldl (· * ·) 1
/-- The number of repairs. -/
def countL (d : Dbs) : Int := if validDb d then prodP (sizesL d) (sizesL d).length else 0

end Go.Proofs.YtgipcnofonejcaaDoor
end

section
/- Chapter 4: ascending places among n: areIndices; the model's l4Set. -/
namespace Go.Proofs.YtgipcnofonejcaaDoor
open Go.RowKit
set_option linter.unusedVariables false
set_option maxRecDepth 100000

/-- A number behind another one. -/
def okPI : Option Int → Int → Bool
  | none, _ => true
  | some q, x => decide (q < x)
def ascI : Option Int → List Int → Bool
  | _, [] => true
  | p, x :: l => okPI p x && ascI (some x) l
/-- Ascending places among n. -/
def setIx (n : Int) (l : List Int) : Bool := l.all (fun x => inB x 0 (n - 1)) && ascI none l
theorem ascI_step (l : List Int) (k : Nat) (hk : k < l.length) : ascI (prevG l k) (l.drop k) = (okPI (prevG l k) l[k] && ascI (prevG l (k + 1)) (l.drop (k + 1))) := by
  rw [List.drop_eq_getElem_cons hk]
  simp [ascI, prevG, hk]
theorem okPI_succ (l : List Int) (k : Nat) (hk : k < l.length) (x : Int) : okPI (prevG l (k + 1)) x = decide (l[k] < x) := by
  show okPI (l[k]?) x = _
  rw [List.getElem?_eq_getElem hk]; rfl
/-- What the model's loop asks. -/
def setFrom (n : Int) : Option Int → List Int → Bool
  | _, [] => true
  | p, x :: l => inB x 0 (n - 1) && (okPI p x && setFrom n (some x) l)
end Go.Proofs.YtgipcnofonejcaaDoor
end

section
/- Functions of a database, for the layer. Written by gen/abdb.py. -/
open Go Go.Proofs Go.RowKit
namespace Go.Proofs.YtgipcnofonejcaaDoor.Ab
set_option linter.unusedSimpArgs false
set_option linter.unusedVariables false
set_option maxRecDepth 100000
theorem db_cut {d : Dbs} (g : eDbs.good d) {w : World} {K : Nat → Nat → Prop} {ov : Nat → Value} {v : Value} (hK : ∀ b o, K b o → b < w.heap.size) (hr : RdS w (ghA K ov) (dbS d) v) :
    ∃ a0 cap0 a1 cap1, v = .agg #[.slice a0 d.rels.length cap0, .slice a1 d.facts.length cap1] ∧ At cDbs w d [.slice a0 d.rels.length cap0, .slice a1 d.facts.length cap1] := by
  obtain ⟨vs, rfl, h⟩ := eDbs.atA (x := d) g hK hr
  obtain ⟨a0, c0, a1, c1, rfl, h⟩ := cDbs_open h
  exact ⟨a0, c0, a1, c1, rfl, h⟩
theorem implIsValidDatabase_a {d : Dbs} (g : eDbs.good d) : AC Tryd.prog 42 [dbS d] (.d (.v (.bool (validDb d)))) :=
  AC.plain Tryd.func42 rfl (by decide) rfl (fun w K cs ov hK hr => by
    simp only [RdSs] at hr
    obtain ⟨v, _, rfl, h, rfl⟩ := hr
    obtain ⟨a0, c0, a1, c1, rfl, h0⟩ := db_cut g hK h
    exact implIsValidDatabase_c h0)
theorem specIsValidDatabase_a {d : Dbs} (g : eDbs.good d) : AC Tryd.prog 36 [dbS d] (.d (.v (.bool (validDb d)))) :=
  AC.plain Tryd.func36 rfl (by decide) rfl (fun w K cs ov hK hr => by
    simp only [RdSs] at hr
    obtain ⟨v, _, rfl, h, rfl⟩ := hr
    obtain ⟨a0, c0, a1, c1, rfl, h0⟩ := db_cut g hK h
    exact specIsValidDatabase_c h0)
end Go.Proofs.YtgipcnofonejcaaDoor.Ab
end

section
/- Generic functions, at the program's types, over any function value that captures only what is read. Written by gen/abgen.py. -/
open Go Go.Proofs Go.RowKit
namespace Go.Proofs.YtgipcnofonejcaaDoor.Ab
set_option linter.unusedSimpArgs false
set_option linter.unusedVariables false
set_option maxRecDepth 100000
/-- What a function value captures is only read. -/
structure Caps (caps : List S) : Prop where
  argl : ∀ m, S.argl m caps = some caps
  readsl : ∀ m, S.readsl m caps = []
  wfs : ∀ m, S.wfs m caps
theorem caps_two (c d : List D) (k j : Nat) : Caps [.e c k, .e d j] := ⟨fun _ => rfl, fun _ => rfl, fun _ => ⟨trivial, trivial, trivial⟩⟩
def idxOf {α : Type} (p : α → Bool) (l : List α) : Int := if l.findIdx p < l.length then (l.findIdx p : Int) else -1
end Go.Proofs.YtgipcnofonejcaaDoor.Ab
end

section
/- isIndex and the model's l1In. -/
open Go Go.Proofs Go.RowKit
namespace Go.Proofs.YtgipcnofonejcaaDoor.Ab
set_option linter.unusedSimpArgs false
set_option linter.unusedVariables false
set_option maxRecDepth 100000
theorem in_b (n lo hi : Int) : AC Tryd.prog 99 [.d (.v (.int .i64 n)), .d (.v (.int .i64 lo)), .d (.v (.int .i64 hi))] (.d (.v (.bool (inB n lo hi)))) := by
  refine AC.intro Tryd.func99 rfl (by decide) (by simp [S.res, S.ress]) (by simp [S.os, S.oss]) (by simp [S.wfs, S.wf, dbS]) (by simp [Tryd.f99]) ?_; rw [Tryd.ntmps99]
  unfold inB
  by_cases h1 : n ≥ lo
  · have h2 : lo ≤ n := h1
    repeat (first | refine aq ?_ | refine ap (by rfl : apartB 0 _ _ = true) ?_ | refine ak ?_ | refine ab ?_ | refine al ?_ | ((first | refine ar ?_ | refine ad ty_mix (by kernel_rfl) ?_ | refine ac ?_ | refine ae ?_ | with_reducible refine Later.mk ?_); simp only [evD, evL, iteL, St.said, St.asked, evStep, evOp, evP, St.init, St.app, srcStep, kill, setMany, loadS, fieldS, buildS, toks, Fin, upd_app, Array.isEmpty, Nat.reduceLT, Nat.reduceAdd, Nat.reduceMul, Nat.reduceLeDiff, Nat.reduceSub, Nat.reduceEqDiff, reduceCtorEq, reduceIte, ↓Opt.is, ↓Opt.no, ↓Asks.yes, ↓Asks.no, tyL, encL, h1, asB]))
    refine Ab.ret ?_; simp only [evD, evL, iteL, St.said, St.asked, evStep, evOp, evP, St.init, St.app, srcStep, kill, setMany, loadS, fieldS, buildS, toks, Fin, upd_app, Array.isEmpty, Nat.reduceLT, Nat.reduceAdd, Nat.reduceMul, Nat.reduceLeDiff, Nat.reduceSub, Nat.reduceEqDiff, reduceCtorEq, reduceIte, ↓Opt.is, ↓Opt.no, ↓Asks.yes, ↓Asks.no, tyL, List.nodup_cons, encL, Tryd.f99, h1, h2]
  · have h2 : ¬ lo ≤ n := h1
    repeat (first | refine aq ?_ | refine ap (by rfl : apartB 0 _ _ = true) ?_ | refine ak ?_ | refine ab ?_ | refine al ?_ | ((first | refine ar ?_ | refine ad ty_mix (by kernel_rfl) ?_ | refine ac ?_ | refine ae ?_ | with_reducible refine Later.mk ?_); simp only [evD, evL, iteL, St.said, St.asked, evStep, evOp, evP, St.init, St.app, srcStep, kill, setMany, loadS, fieldS, buildS, toks, Fin, upd_app, Array.isEmpty, Nat.reduceLT, Nat.reduceAdd, Nat.reduceMul, Nat.reduceLeDiff, Nat.reduceSub, Nat.reduceEqDiff, reduceCtorEq, reduceIte, ↓Opt.is, ↓Opt.no, ↓Asks.yes, ↓Asks.no, tyL, encL, h1, asB]))
    refine Ab.ret ?_; simp only [evD, evL, iteL, St.said, St.asked, evStep, evOp, evP, St.init, St.app, srcStep, kill, setMany, loadS, fieldS, buildS, toks, Fin, upd_app, Array.isEmpty, Nat.reduceLT, Nat.reduceAdd, Nat.reduceMul, Nat.reduceLeDiff, Nat.reduceSub, Nat.reduceEqDiff, reduceCtorEq, reduceIte, ↓Opt.is, ↓Opt.no, ↓Asks.yes, ↓Asks.no, tyL, List.nodup_cons, encL, Tryd.f99, h1, h2]
end Go.Proofs.YtgipcnofonejcaaDoor.Ab
end

section
/- Strictly ascending indices. -/
namespace Go.Proofs.YtgipcnofonejcaaDoor
open Go.RowKit
set_option linter.unusedVariables false
set_option maxRecDepth 100000
theorem ascI_pw : ∀ (l : List Int) (p : Option Int), ascI p l = true → l.Pairwise (· < ·) ∧ ∀ q, p = some q → ∀ x, x ∈ l → q < x
  | [], p, _ => ⟨List.Pairwise.nil, by simp⟩
  | x :: l, p, h => by
    simp only [ascI, Bool.and_eq_true] at h
    obtain ⟨h1, h2⟩ := ascI_pw l (some x) h.2
    refine ⟨List.pairwise_cons.2 ⟨h2 x rfl, h1⟩, ?_⟩
    rintro q rfl y hy
    have hq : q < x := by simpa [okPI] using h.1
    rcases List.mem_cons.1 hy with rfl | hy
    · exact hq
    · have := h2 x rfl y hy; omega
end Go.Proofs.YtgipcnofonejcaaDoor
end

section
/- RnkOne: In4 RepP AbSel Rank. -/
/- The model's l1In and l4Set. -/
open Go Go.Proofs Go.RowKit
namespace Go.Proofs.YtgipcnofonejcaaDoor.Ab
set_option linter.unusedSimpArgs false
set_option linter.unusedVariables false
set_option maxRecDepth 100000
end Go.Proofs.YtgipcnofonejcaaDoor.Ab

/- Chapters 5 and 7: partial repairs, repairs and their ranks, in plain words. -/
namespace Go.Proofs.YtgipcnofonejcaaDoor
open Go.RowKit
set_option linter.unusedVariables false
set_option maxRecDepth 100000

/-- The facts at these places. -/
def selF (d : Dbs) (l : List Int) : List Fct := l.filterMap fun i => d.facts[i.toNat]?
def selOk (d : Dbs) (l : List Int) : Bool := validDb d && setIx d.facts.length l
/-- What SelectFacts hands back. -/
def selD (d : Dbs) (l : List Int) : Dbs := if selOk d l then ⟨d.rels, selF d l⟩ else ⟨[], []⟩
def partialR (d : Dbs) (l : List Int) : Bool := selOk d l && consistent (selD d l)
def isRepair (d : Dbs) (l : List Int) : Bool := partialR d l && decide (l.length = (blocksL d).length)
/-- One of each. -/
def picks : List (List Nat) → List Nat → Prop
  | [], [] => True
  | b :: bs, x :: L => x ∈ b ∧ picks bs L
  | _, _ => False
end Go.Proofs.YtgipcnofonejcaaDoor

/- Chapters 4, 5, 7: copies, SelectFacts, partial repairs, repairs. -/
open Go Go.Proofs Go.RowKit
namespace Go.Proofs.YtgipcnofonejcaaDoor.Ab
set_option linter.unusedSimpArgs false
set_option linter.unusedVariables false
set_option maxRecDepth 100000
theorem vld_facts {d : Dbs} (h : validDb d = true) : d.facts.length ≤ 14 := dbValid_len h
end Go.Proofs.YtgipcnofonejcaaDoor.Ab
open Go Go.Proofs Go.RowKit
namespace Go.Proofs.YtgipcnofonejcaaDoor.Ab
set_option linter.unusedSimpArgs false
set_option linter.unusedVariables false
set_option maxRecDepth 100000
def rankP (L : List (List Int)) (l : List Int) : Nat → Int
  | 0 => 0
  | i + 1 => IntKind.i64.wrap (IntKind.i64.wrap (rankP L l i * ((L.getD i []).length : Int)) + idxOf (fun y => l.getD i 0 == y) (L.getD i []))
def rankL (d : Dbs) (l : List Int) : Int := if isRepair d l then rankP (blocksL d) l (blocksL d).length else 0
end Go.Proofs.YtgipcnofonejcaaDoor.Ab
end

section
/- Chapter 9: IsValidConstraint, the model's and the program's. -/
namespace Go.Proofs.YtgipcnofonejcaaDoor
open Go.RowKit
set_option linter.unusedVariables false
set_option maxRecDepth 100000

theorem validRels_each {l : List Rel} (h : validRels l = true) (k : Nat) (hk : k < l.length) : validRel l[k] = true := by
  unfold validRels at h
  rw [ascFrom_split] at h
  simp only [Bool.and_eq_true] at h
  exact List.all_eq_true.1 h.1.1 _ (List.getElem_mem hk)
/-- A column of a relation. -/
def colOk (l : List Rel) (r c : Int) : Bool := inB r 0 ((l.length : Int) - 1) && inB c 0 (arityAt l r - 1)
theorem isIndexI_any (i n : Int) (w : World) :
    Calls Tryd.prog 101 #[.int .i64 i, .int .i64 n] w fun e w' => e = .returned (.bool (inB i 0 (n - 1))) ∧ w = w' := by
  unfold inB
  have e : decide (i ≤ n - 1) = decide (i < n) := by simp; omega
  rw [e]
  clear e
  by_cases h : 0 ≤ i
  · go_enter Tryd.func101, Tryd.ntmps101
    go_wp2
    go_ret
    exact ⟨by simp; try omega, rfl⟩
  · go_enter Tryd.func101, Tryd.ntmps101
    go_wp2
    go_ret
    exact ⟨by simp; try omega, rfl⟩
theorem isColumn_c {a0 : Option Addr} {cap0 : Nat} {l : List Rel} {w : World} (r c : Int) (h : At (cSlice cRel) w l [.slice a0 l.length cap0]) :
    Calls Tryd.prog 142 #[.slice a0 l.length cap0, .int .i64 r, .int .i64 c] w fun e w' => e = .returned (.bool (colOk l r c)) ∧ w = w' := by
  have hm := (slice_len h).2
  unfold maxLen at hm
  have Hr : Hid (∀ j (hj : j < l.length), _) := fun j hj => at_Relation h j hj
  clear h
  unfold colOk
  obtain ⟨n, hn⟩ : ∃ n : Nat, l.length = n := ⟨_, rfl⟩
  have Hn := Lib.hid hn
  rw [hn] at hm ⊢
  clear hn
  have Hl : Hid (∀ ww, Calls Tryd.prog 101 #[.int .i64 r, .int .i64 n] ww fun e w' => e = .returned (.bool (inB r 0 ((n : Int) - 1))) ∧ ww = w') := fun ww => isIndexI_any _ _ _
  have hI : inB r 0 ((n : Int) - 1) = true → 0 ≤ r ∧ r ≤ (n : Int) - 1 := by unfold inB; simp
  generalize inB r 0 ((n : Int) - 1) = I at *
  cases I with
  | false =>
    rw [Bool.false_and]
    clear hI
    go_enter Tryd.func142, Tryd.ntmps142
    go_wp2_with (go_at_call 101; refine (Hl.out _).mono ?_; rintro e w' ⟨rfl, rfl⟩)
    go_ret
    exact ⟨rfl, rfl⟩
  | true =>
    rw [Bool.true_and]
    obtain ⟨hr0, hr1⟩ := hI rfl
    clear hI
    obtain ⟨k, rfl⟩ := Int.eq_ofNat_of_zero_le hr0
    have hk : k < n := by omega
    have hkl : k < l.length := by rw [Hn.out]; exact hk
    have har : arityAt l (k : Int) = l[k].arity := by unfold arityAt; simp [hkl]
    rw [har]
    clear har
    obtain ⟨b, off, rfl, hbB, c0, c1, c2, hx⟩ := Hr.out k hkl
    have Hl2 : Hid (∀ ww, Calls Tryd.prog 101 #[.int .i64 c, .int .i64 l[k].arity] ww fun e w' => e = .returned (.bool (inB c 0 (l[k].arity - 1))) ∧ ww = w') := fun ww => isIndexI_any _ _ _
    clear hx Hr c0 c2
    generalize l[k] = q at *
    generalize inB c 0 (q.arity - 1) = J at *
    go_enter Tryd.func142, Tryd.ntmps142
    go_wp2_with fail
    refine (Hl.out _).mono ?_
    rintro e w' ⟨rfl, rfl⟩
    go_wp2_with fail
    refine (Hl2.out _).mono ?_
    rintro e w' ⟨rfl, rfl⟩
    go_wp2
    go_ret
    exact ⟨rfl, rfl⟩

/-- A constraint that fits the relations. -/
def fits (l : List Rel) (c : Dcn) : Bool := colOk l c.r1 c.j1 && (colOk l c.r1 c.c1 && (colOk l c.r2 c.j2 && (colOk l c.r2 c.c2 && inB c.cmp 1 2)))
set_option maxHeartbeats 1600000 in
theorem fitsSchema_c {a0 : Option Addr} {cap0 : Nat} {l : List Rel} {c : Dcn} {w : World} (h : At (cSlice cRel) w l [.slice a0 l.length cap0]) :
    Calls Tryd.prog 127 #[.slice a0 l.length cap0, .agg #[.int .i64 c.r1, .int .i64 c.r2, .int .i64 c.j1, .int .i64 c.j2, .int .i64 c.c1, .int .i64 c.c2, .int .i64 c.cmp]] w fun e w' => e = .returned (.bool (fits l c)) ∧ Below w.heap.size w w' := by
  have H := fun (r q : Int) => Lib.hid (fun ww (hb : Below w.heap.size w ww) => isColumn_c r q (At.below h hb (Nat.le_refl _)))
  have HA := H c.r1 c.j1
  have HB := H c.r1 c.c1
  have HC := H c.r2 c.j2
  have HD := H c.r2 c.c2
  clear H h
  unfold fits
  have hM : inB c.cmp 1 2 = (decide (c.cmp = 1) || decide (c.cmp = 2)) := by
    unfold inB
    by_cases h1 : c.cmp = 1
    · rw [h1]; rfl
    · by_cases h2 : c.cmp = 2
      · rw [h2]; rfl
      · have e : ¬ ((1 : Int) ≤ c.cmp ∧ c.cmp ≤ 2) := by omega
        rw [← Bool.decide_and, decide_eq_false e, decide_eq_false h1, decide_eq_false h2]; rfl
  rw [hM]
  clear hM
  generalize colOk l c.r1 c.j1 = A at *
  generalize colOk l c.r1 c.c1 = B at *
  generalize colOk l c.r2 c.j2 = C at *
  generalize colOk l c.r2 c.c2 = D at *
  obtain ⟨r1, r2, j1, j2, c1, c2, cm⟩ := c
  simp only at *
  generalize l.length = n at *
  obtain ⟨wx, hwx⟩ : ∃ wx, wx = w.alloc (Obj.cells #[.int .i64 r1, .int .i64 r2, .int .i64 j1, .int .i64 j2, .int .i64 c1, .int .i64 c2, .int .i64 cm] 69) := ⟨_, rfl⟩
  have hb0 : Below w.heap.size w wx := by rw [hwx]; go_grown
  have p0 : wx.cell? ⟨w.heap.size, 0, none⟩ = some (.int .i64 r1) := by rw [hwx]; go_simp
  have p1 : wx.cell? ⟨w.heap.size, 1, none⟩ = some (.int .i64 r2) := by rw [hwx]; go_simp
  have p2 : wx.cell? ⟨w.heap.size, 2, none⟩ = some (.int .i64 j1) := by rw [hwx]; go_simp
  have p3 : wx.cell? ⟨w.heap.size, 3, none⟩ = some (.int .i64 j2) := by rw [hwx]; go_simp
  have p4 : wx.cell? ⟨w.heap.size, 4, none⟩ = some (.int .i64 c1) := by rw [hwx]; go_simp
  have p5 : wx.cell? ⟨w.heap.size, 5, none⟩ = some (.int .i64 c2) := by rw [hwx]; go_simp
  have p6 : wx.cell? ⟨w.heap.size, 6, none⟩ = some (.int .i64 cm) := by rw [hwx]; go_simp
  have Hwx := Lib.hid hwx
  clear hwx
  go_enter Tryd.func127, Tryd.ntmps127
  go_wp2_with fail
  rw [← Hwx.out]
  clear Hwx
  refine (HA.out _ hb0).mono ?_
  rintro e w' ⟨rfl, rfl⟩
  cases A with
  | false =>
    go_wp2
    go_ret
    exact ⟨rfl, hb0⟩
  | true =>
    go_wp2_with fail
    refine (HB.out _ hb0).mono ?_
    rintro e w' ⟨rfl, rfl⟩
    cases B with
    | false =>
      go_wp2
      go_ret
      exact ⟨rfl, hb0⟩
    | true =>
      go_wp2_with fail
      refine (HC.out _ hb0).mono ?_
      rintro e w' ⟨rfl, rfl⟩
      cases C with
      | false =>
        go_wp2
        go_ret
        exact ⟨rfl, hb0⟩
      | true =>
        go_wp2_with fail
        refine (HD.out _ hb0).mono ?_
        rintro e w' ⟨rfl, rfl⟩
        cases D with
        | false =>
          go_wp2
          go_ret
          exact ⟨rfl, hb0⟩
        | true =>
          by_cases h1 : cm = 1
          · subst h1
            go_wp2
            go_ret
            exact ⟨rfl, hb0⟩
          · have e1 : (cm == 1) = false := by simp [h1]
            by_cases h2 : cm = 2
            · subst h2
              go_wp2
              go_ret
              exact ⟨rfl, hb0⟩
            · have e2 : (cm == 2) = false := by simp [h2]
              go_wp2
              go_ret
              exact ⟨by simp [h1, h2], hb0⟩

/-- A valid constraint. -/
def validCon (d : Dbs) (c : Dcn) : Bool := validDb d && fits d.rels c
set_option maxHeartbeats 3200000 in
theorem specIsValidConstraint_c {a0 a1 : Option Addr} {cap0 cap1 : Nat} {x : Dbs} {c : Dcn} {w : World} (h : At cDbs w x [.slice a0 x.rels.length cap0, .slice a1 x.facts.length cap1]) (hc : At cDcn w c [.int .i64 c.r1, .int .i64 c.r2, .int .i64 c.j1, .int .i64 c.j2, .int .i64 c.c1, .int .i64 c.c2, .int .i64 c.cmp]) :
    Calls Tryd.prog 118 #[.agg #[.slice a0 x.rels.length cap0, .slice a1 x.facts.length cap1], .agg #[.int .i64 c.r1, .int .i64 c.r2, .int .i64 c.j1, .int .i64 c.j2, .int .i64 c.c1, .int .i64 c.c2, .int .i64 c.cmp]] w fun e w' => e = .returned (.bool (validCon x c)) ∧ Below w.heap.size w w' := by
  have hx0 := (cDbs_inv h).1
  have hm := (slice_len hx0).2
  unfold maxLen at hm
  have HR : Hid (∀ w' : World, Below w.heap.size w w' → ∀ j (hj : j < x.rels.length), _) := fun w' hb j hj => at_Relation (Cod.ok_below hx0 hb) j hj
  have H1 : Hid (∀ ww, Below w.heap.size w ww → Calls Tryd.prog 36 #[.agg #[.slice a0 x.rels.length cap0, .slice a1 x.facts.length cap1]] ww fun e w' => e = .returned (.bool (validDb x)) ∧ Below ww.heap.size ww w') :=
    fun ww hb => specIsValidDatabase_c (At.below h hb (Nat.le_refl _))
  have hE : validCon x c = (validDb x && (inB c.r1 0 ((x.rels.length : Int) - 1) && (inB c.r2 0 ((x.rels.length : Int) - 1) && (inB c.j1 0 (arityAt x.rels c.r1 - 1) && (inB c.c1 0 (arityAt x.rels c.r1 - 1) && (inB c.j2 0 (arityAt x.rels c.r2 - 1) && (inB c.c2 0 (arityAt x.rels c.r2 - 1) && inB c.cmp 1 2))))))) := by
    unfold validCon fits colOk
    cases inB c.r1 0 ((x.rels.length : Int) - 1) <;> cases inB c.r2 0 ((x.rels.length : Int) - 1) <;> simp
  have hV : validDb x = true → validRels x.rels = true := by
    intro hv
    unfold validDb at hv
    simp only [Bool.and_eq_true] at hv
    exact hv.2.1
  rw [hE]
  have hrg := cDcn_inv hc
  clear h hc hE hx0
  obtain ⟨l, xf⟩ := x
  obtain ⟨r1, r2, j1, j2, c1, c2, cm⟩ := c
  simp only at *
  obtain ⟨n, hn⟩ : ∃ n : Nat, l.length = n := ⟨_, rfl⟩
  have Hn := Lib.hid hn
  rw [hn] at hm H1 ⊢
  clear hn
  generalize xf.length = nf at *
  have hwn : wrap64 ((n : Int) - 1) = (n : Int) - 1 := IntWalk.wrap64_in _ ⟨by omega, by omega⟩
  generalize validDb ⟨l, xf⟩ = V at *
  have hI1 : inB r1 0 ((n : Int) - 1) = true → 0 ≤ r1 ∧ r1 ≤ (n : Int) - 1 := by unfold inB; simp
  have hI2 : inB r2 0 ((n : Int) - 1) = true → 0 ≤ r2 ∧ r2 ≤ (n : Int) - 1 := by unfold inB; simp
  have K1 : Hid (∀ ww, Calls Tryd.prog 99 #[.int .i64 r1, .int .i64 0, .int .i64 ((n : Int) - 1)] ww fun e w' => e = .returned (.bool (inB r1 0 ((n : Int) - 1))) ∧ ww = w') := fun ww => l1In_any _ _ _ _
  have K2 : Hid (∀ ww, Calls Tryd.prog 99 #[.int .i64 r2, .int .i64 0, .int .i64 ((n : Int) - 1)] ww fun e w' => e = .returned (.bool (inB r2 0 ((n : Int) - 1))) ∧ ww = w') := fun ww => l1In_any _ _ _ _
  generalize hJ1 : inB r1 0 ((n : Int) - 1) = I1 at *
  generalize hJ2 : inB r2 0 ((n : Int) - 1) = I2 at *
  clear hJ1 hJ2
  obtain ⟨wx, hwx⟩ : ∃ wx, wx = (w.alloc (Obj.cells #[.slice a0 n cap0, .slice a1 nf cap1] 34)).alloc (Obj.cells #[.int .i64 r1, .int .i64 r2, .int .i64 j1, .int .i64 j2, .int .i64 c1, .int .i64 c2, .int .i64 cm] 69) := ⟨_, rfl⟩
  have hb0 : Below w.heap.size w wx := by rw [hwx]; go_grown
  have q0 : wx.cell? ⟨w.heap.size, 0, none⟩ = some (.slice a0 n cap0) := by rw [hwx]; go_simp
  have q1 : wx.cell? ⟨w.heap.size, 1, none⟩ = some (.slice a1 nf cap1) := by rw [hwx]; go_simp
  have p0 : wx.cell? ⟨w.heap.size + 1, 0, none⟩ = some (.int .i64 r1) := by rw [hwx]; go_simp
  have p1 : wx.cell? ⟨w.heap.size + 1, 1, none⟩ = some (.int .i64 r2) := by rw [hwx]; go_simp
  have p2 : wx.cell? ⟨w.heap.size + 1, 2, none⟩ = some (.int .i64 j1) := by rw [hwx]; go_simp
  have p3 : wx.cell? ⟨w.heap.size + 1, 3, none⟩ = some (.int .i64 j2) := by rw [hwx]; go_simp
  have p4 : wx.cell? ⟨w.heap.size + 1, 4, none⟩ = some (.int .i64 c1) := by rw [hwx]; go_simp
  have p5 : wx.cell? ⟨w.heap.size + 1, 5, none⟩ = some (.int .i64 c2) := by rw [hwx]; go_simp
  have p6 : wx.cell? ⟨w.heap.size + 1, 6, none⟩ = some (.int .i64 cm) := by rw [hwx]; go_simp
  have Hwx := Lib.hid hwx
  clear hwx
  go_enter Tryd.func118, Tryd.ntmps118
  go_wp2_with fail
  rw [← Hwx.out]
  clear Hwx
  refine (H1.out _ hb0).mono ?_
  rintro e w1 ⟨rfl, hb1⟩
  have hbb : Below w.heap.size w w1 := hb0.trans (hb1.mono hb0.size)
  cases V with
  | false =>
    clear HR hV hI1 hI2
    go_wp2
    go_ret
    exact ⟨rfl, hbb⟩
  | true =>
    have hvr := hV rfl
    clear hV
    replace q0 := cell_next q0 hb1
    replace q1 := cell_next q1 hb1
    replace p0 := cell_next p0 hb1
    replace p1 := cell_next p1 hb1
    replace p2 := cell_next p2 hb1
    replace p3 := cell_next p3 hb1
    replace p4 := cell_next p4 hb1
    replace p5 := cell_next p5 hb1
    replace p6 := cell_next p6 hb1
    clear hb0 hb1 H1
    have Hvr := Lib.hid hvr
    clear hvr
    go_wp2_with fail
    refine (K1.out _).mono ?_
    rintro e w' ⟨rfl, rfl⟩
    cases I1 with
    | false =>
      clear HR hI1 hI2
      go_wp2
      go_ret
      exact ⟨rfl, hbb⟩
    | true =>
      obtain ⟨ha, hb⟩ := hI1 (by first | rfl | trivial)
      clear hI1
      obtain ⟨k1, rfl⟩ := Int.eq_ofNat_of_zero_le ha
      have hk1 : k1 < n := by omega
      have hkl1 : k1 < l.length := by rw [Hn.out]; exact hk1
      clear ha hb
      go_wp2_with fail
      refine (K2.out _).mono ?_
      rintro e w' ⟨rfl, rfl⟩
      cases I2 with
      | false =>
        clear HR hI2
        go_wp2
        go_ret
        exact ⟨rfl, hbb⟩
      | true =>
        obtain ⟨ha, hb⟩ := hI2 (by first | rfl | trivial)
        clear hI2
        obtain ⟨k2, rfl⟩ := Int.eq_ofNat_of_zero_le ha
        have hk2 : k2 < n := by omega
        have hkl2 : k2 < l.length := by rw [Hn.out]; exact hk2
        clear ha hb
        have har1 : arityAt l (k1 : Int) = l[k1].arity := by unfold arityAt; simp [hkl1]
        have har2 : arityAt l (k2 : Int) = l[k2].arity := by unfold arityAt; simp [hkl2]
        obtain ⟨b, off, rfl, hbB, x0, x1, x2, hx⟩ := HR.out _ hbb k1 hkl1
        obtain ⟨b', off', e', hbB', y0, y1, y2, hy⟩ := HR.out _ hbb k2 hkl2
        obtain ⟨rfl, rfl⟩ : b = b' ∧ off = off' := by simp at e'; exact e'
        have hv1 := validRels_each Hvr.out k1 hkl1
        have hv2 := validRels_each Hvr.out k2 hkl2
        unfold validRel inB at hv1 hv2
        simp only [Bool.and_eq_true, decide_eq_true_eq] at hv1 hv2
        have hA1 := hv1.2.1
        have hA2 := hv2.2.1
        clear e' hx hy x0 x2 y0 y2 hv1 hv2 HR Hvr hbB'
        generalize l[k1] = s1 at *
        generalize l[k2] = s2 at *
        obtain ⟨m1, hm1⟩ : ∃ m, s1.arity = m := ⟨_, rfl⟩
        obtain ⟨m2, hm2⟩ : ∃ m, s2.arity = m := ⟨_, rfl⟩
        rw [hm1] at hA1 x1 har1
        rw [hm2] at hA2 y1 har2
        clear hm1 hm2
        have Har1 := Lib.hid har1
        have Har2 := Lib.hid har2
        clear har1 har2
        have hw1 : wrap64 (m1 - 1) = m1 - 1 := IntWalk.wrap64_in _ ⟨by omega, by omega⟩
        have hw2 : wrap64 (m2 - 1) = m2 - 1 := IntWalk.wrap64_in _ ⟨by omega, by omega⟩
        clear hA1 hA2
        go_wp2_with fail
        refine (l1In_any _ _ _ _).mono ?_
        rintro e w' ⟨rfl, rfl⟩
        cases hB0 : inB j1 0 (m1 - 1) with
        | false =>
          have HB0 := Lib.hid hB0
          clear hB0
          go_wp2
          go_ret
          exact ⟨by rw [Har1.out, Har2.out, HB0.out]; simp, hbb⟩
        | true =>
          have HB0 := Lib.hid hB0
          clear hB0
          go_wp2_with fail
          refine (l1In_any _ _ _ _).mono ?_
          rintro e w' ⟨rfl, rfl⟩
          cases hB1 : inB c1 0 (m1 - 1) with
          | false =>
            have HB1 := Lib.hid hB1
            clear hB1
            go_wp2
            go_ret
            exact ⟨by rw [Har1.out, Har2.out, HB0.out, HB1.out]; simp, hbb⟩
          | true =>
            have HB1 := Lib.hid hB1
            clear hB1
            go_wp2_with fail
            refine (l1In_any _ _ _ _).mono ?_
            rintro e w' ⟨rfl, rfl⟩
            cases hB2 : inB j2 0 (m2 - 1) with
            | false =>
              have HB2 := Lib.hid hB2
              clear hB2
              go_wp2
              go_ret
              exact ⟨by rw [Har1.out, Har2.out, HB0.out, HB1.out, HB2.out]; simp, hbb⟩
            | true =>
              have HB2 := Lib.hid hB2
              clear hB2
              go_wp2_with fail
              refine (l1In_any _ _ _ _).mono ?_
              rintro e w' ⟨rfl, rfl⟩
              cases hB3 : inB c2 0 (m2 - 1) with
              | false =>
                have HB3 := Lib.hid hB3
                clear hB3
                go_wp2
                go_ret
                exact ⟨by rw [Har1.out, Har2.out, HB0.out, HB1.out, HB2.out, HB3.out]; simp, hbb⟩
              | true =>
                have HB3 := Lib.hid hB3
                clear hB3
                go_wp2_with fail
                refine (l1In_any _ _ _ _).mono ?_
                rintro e w' ⟨rfl, rfl⟩
                go_wp2
                go_ret
                exact ⟨by rw [Har1.out, Har2.out, HB0.out, HB1.out, HB2.out, HB3.out]; simp, hbb⟩
end Go.Proofs.YtgipcnofonejcaaDoor
end

section
/- Chapter 9: ViolatesConstraint, the model's and the program's. -/
namespace Go.Proofs.YtgipcnofonejcaaDoor
open Go.RowKit
set_option linter.unusedVariables false
set_option maxRecDepth 100000

/-- A column's value of a fact. -/
def valAt (x : Fct) (c : Int) : Int := x.vals.getD c.toNat 0
/-- Two facts that a constraint forbids. -/
def forb (c : Dcn) (x y : Fct) : Bool := decide (x.rel = c.r1) && (decide (y.rel = c.r2) && (decide (valAt x c.j1 = valAt y c.j2) && (if c.cmp = 2 then decide (valAt x c.c1 < valAt y c.c2) else decide (valAt x c.c1 = valAt y c.c2))))
/-- The constraint's columns are columns of the fact. -/
def hasCols (x : Fct) (j c : Int) : Prop := 0 ≤ j ∧ j < (x.vals.length : Int) ∧ 0 ≤ c ∧ c < (x.vals.length : Int)
def forbAt (d : Dbs) (c : Dcn) (i k : Int) : Bool := match d.facts[i.toNat]?, d.facts[k.toNat]? with | some x, some y => forb c x y | _, _ => false
def violates (d : Dbs) (c : Dcn) (i k : Int) : Bool := validCon d c && (inB i 0 ((d.facts.length : Int) - 1) && (inB k 0 ((d.facts.length : Int) - 1) && (!decide (i = k) && forbAt d c i k)))
theorem validDb_fact {d : Dbs} (h : validDb d = true) (k : Nat) (hk : k < d.facts.length) : validFact d.rels d.facts[k] = true := by
  rw [validDb_eq] at h
  simp only [Bool.and_eq_true] at h
  exact List.all_eq_true.1 h.2.1 _ (List.getElem_mem hk)
theorem con_cols {d : Dbs} {c : Dcn} (h : validCon d c = true) (k : Nat) (hk : k < d.facts.length) : (d.facts[k].rel = c.r1 → hasCols d.facts[k] c.j1 c.c1) ∧ (d.facts[k].rel = c.r2 → hasCols d.facts[k] c.j2 c.c2) := by
  unfold validCon fits colOk inB at h
  simp only [Bool.and_eq_true, decide_eq_true_eq] at h
  obtain ⟨h0, ⟨_, h1⟩, ⟨_, h2⟩, ⟨_, h3⟩, ⟨_, h4⟩, _⟩ := h
  have hf := validDb_fact h0 k hk
  unfold validFact inB at hf
  simp only [Bool.and_eq_true, decide_eq_true_eq] at hf
  obtain ⟨_, _, h5, _⟩ := hf
  refine ⟨fun e => ?_, fun e => ?_⟩
  · rw [e] at h5
    exact ⟨h1.1, by omega, h2.1, by omega⟩
  · rw [e] at h5
    exact ⟨h3.1, by omega, h4.1, by omega⟩
theorem con_cmp {d : Dbs} {c : Dcn} (h : validCon d c = true) : c.cmp = 1 ∨ c.cmp = 2 := by
  unfold validCon fits inB at h
  simp only [Bool.and_eq_true, decide_eq_true_eq] at h
  have := h.2.2.2.2.2
  omega
theorem valAt_nat {x : Fct} {j : Nat} (h : j < x.vals.length) : valAt x (j : Int) = x.vals[j] := by unfold valAt; simp [h]

set_option maxHeartbeats 3200000 in
theorem isForbidden_c {ax ay : Option Addr} {cx cy : Nat} {c : Dcn} {x y : Fct} {w : World} (h1 : At cFct w x [.int .i64 x.rel, .slice ax x.vals.length cx]) (h2 : At cFct w y [.int .i64 y.rel, .slice ay y.vals.length cy])
    (hx : x.rel = c.r1 → hasCols x c.j1 c.c1) (hy : y.rel = c.r2 → hasCols y c.j2 c.c2) :
    Calls Tryd.prog 128 #[.agg #[.int .i64 c.r1, .int .i64 c.r2, .int .i64 c.j1, .int .i64 c.j2, .int .i64 c.c1, .int .i64 c.c2, .int .i64 c.cmp], .agg #[.int .i64 x.rel, .slice ax x.vals.length cx], .agg #[.int .i64 y.rel, .slice ay y.vals.length cy]] w fun e w' => e = .returned (.bool (forb c x y)) ∧ Below w.heap.size w w' := by
  have hX := (cFct_inv h1).1
  have hY := (cFct_inv h2).1
  have hmx := (slice_len hX).2
  have hmy := (slice_len hY).2
  unfold maxLen at hmx hmy
  have HX : Hid (∀ w' : World, Below w.heap.size w w' → ∀ j (hj : j < x.vals.length), _) := fun w' hb j hj => ints_at (Cod.ok_below hX hb) j hj
  have HY : Hid (∀ w' : World, Below w.heap.size w w' → ∀ j (hj : j < y.vals.length), _) := fun w' hb j hj => ints_at (Cod.ok_below hY hb) j hj
  clear h1 h2 hX hY
  unfold forb
  by_cases hrx : x.rel = c.r1
  · by_cases hry : y.rel = c.r2
    · obtain ⟨ha, hb, hc, hd⟩ := hx hrx
      obtain ⟨ha', hb', hc', hd'⟩ := hy hry
      rw [decide_eq_true hrx, decide_eq_true hry, Bool.true_and, Bool.true_and]
      clear hx hy
      obtain ⟨r1, r2, j1, j2, c1, c2, cm⟩ := c
      simp only at *
      obtain ⟨j1, rfl⟩ := Int.eq_ofNat_of_zero_le ha
      obtain ⟨c1, rfl⟩ := Int.eq_ofNat_of_zero_le hc
      obtain ⟨j2, rfl⟩ := Int.eq_ofNat_of_zero_le ha'
      obtain ⟨c2, rfl⟩ := Int.eq_ofNat_of_zero_le hc'
      have hj1 : j1 < x.vals.length := by omega
      have hc1 : c1 < x.vals.length := by omega
      have hj2 : j2 < y.vals.length := by omega
      have hc2 : c2 < y.vals.length := by omega
      rw [valAt_nat hj1, valAt_nat hc1, valAt_nat hj2, valAt_nat hc2]
      obtain ⟨rx, vx⟩ := x
      obtain ⟨ry, vy⟩ := y
      simp only at *
      subst hrx
      subst hry
      obtain ⟨b, off, rfl, hbB, u1⟩ := HX.out _ (Below.refl _ _) j1 hj1
      obtain ⟨b', off', e', hbB', u2⟩ := HX.out _ (Below.refl _ _) c1 hc1
      obtain ⟨rfl, rfl⟩ : b = b' ∧ off = off' := by simp at e'; exact e'
      obtain ⟨d, of2, rfl, hdB, v1⟩ := HY.out _ (Below.refl _ _) j2 hj2
      obtain ⟨d', of2', e2, hdB', v2⟩ := HY.out _ (Below.refl _ _) c2 hc2
      obtain ⟨rfl, rfl⟩ : d = d' ∧ of2 = of2' := by simp at e2; exact e2
      clear HX HY e' e2 hbB' hdB'
      generalize vx[j1] = p at *
      generalize vx[c1] = q at *
      generalize vy[j2] = p' at *
      generalize vy[c2] = q' at *
      obtain ⟨n, hn⟩ : ∃ n : Nat, vx.length = n := ⟨_, rfl⟩
      obtain ⟨m, hm⟩ : ∃ n : Nat, vy.length = n := ⟨_, rfl⟩
      rw [hn] at hj1 hc1 hmx hb hd ⊢
      rw [hm] at hj2 hc2 hmy hb' hd' ⊢
      clear hn hm
      obtain ⟨wx, hwx⟩ : ∃ wx, wx = ((w.alloc (Obj.cells #[.int .i64 rx, .int .i64 ry, .int .i64 j1, .int .i64 j2, .int .i64 c1, .int .i64 c2, .int .i64 cm] 69)).alloc (Obj.cells #[.int .i64 rx, .slice (some ⟨b, off, none⟩) n cx] 102)).alloc (Obj.cells #[.int .i64 ry, .slice (some ⟨d, of2, none⟩) m cy] 102) := ⟨_, rfl⟩
      have hb0 : Below w.heap.size w wx := by rw [hwx]; go_grown
      have a0_ : wx.cell? ⟨w.heap.size, 0, none⟩ = some (.int .i64 rx) := by rw [hwx]; go_simp
      have a1_ : wx.cell? ⟨w.heap.size, 1, none⟩ = some (.int .i64 ry) := by rw [hwx]; go_simp
      have a2_ : wx.cell? ⟨w.heap.size, 2, none⟩ = some (.int .i64 j1) := by rw [hwx]; go_simp
      have a3_ : wx.cell? ⟨w.heap.size, 3, none⟩ = some (.int .i64 j2) := by rw [hwx]; go_simp
      have a4_ : wx.cell? ⟨w.heap.size, 4, none⟩ = some (.int .i64 c1) := by rw [hwx]; go_simp
      have a5_ : wx.cell? ⟨w.heap.size, 5, none⟩ = some (.int .i64 c2) := by rw [hwx]; go_simp
      have a6_ : wx.cell? ⟨w.heap.size, 6, none⟩ = some (.int .i64 cm) := by rw [hwx]; go_simp
      have b0_ : wx.cell? ⟨w.heap.size + 1, 0, none⟩ = some (.int .i64 rx) := by rw [hwx]; go_simp
      have b1_ : wx.cell? ⟨w.heap.size + 1, 1, none⟩ = some (.slice (some ⟨b, off, none⟩) n cx) := by rw [hwx]; go_simp
      have d0_ : wx.cell? ⟨w.heap.size + 1 + 1, 0, none⟩ = some (.int .i64 ry) := by rw [hwx]; go_simp
      have d1_ : wx.cell? ⟨w.heap.size + 1 + 1, 1, none⟩ = some (.slice (some ⟨d, of2, none⟩) m cy) := by rw [hwx]; go_simp
      replace u1 := cell_next u1 hb0
      replace u2 := cell_next u2 hb0
      replace v1 := cell_next v1 hb0
      replace v2 := cell_next v2 hb0
      have Hwx := Lib.hid hwx
      clear hwx
      have Ga0_ := grow_cell a0_
      have Ga1_ := grow_cell a1_
      have Ga2_ := grow_cell a2_
      have Ga3_ := grow_cell a3_
      have Ga4_ := grow_cell a4_
      have Ga5_ := grow_cell a5_
      have Ga6_ := grow_cell a6_
      have Gb0_ := grow_cell b0_
      have Gb1_ := grow_cell b1_
      have Gd0_ := grow_cell d0_
      have Gd1_ := grow_cell d1_
      have Gu1 := grow_cell u1
      have Gu2 := grow_cell u2
      have Gv1 := grow_cell v1
      have Gv2 := grow_cell v2
      clear a0_ a1_ a2_ a3_ a4_ a5_ a6_ b0_ b1_ d0_ d1_ u1 u2 v1 v2
      have i1 : (0 : Int) ≤ (j1 : Int) := Int.natCast_nonneg _
      have i2 : (0 : Int) ≤ (j2 : Int) := Int.natCast_nonneg _
      have i3 : (0 : Int) ≤ (c1 : Int) := Int.natCast_nonneg _
      have i4 : (0 : Int) ≤ (c2 : Int) := Int.natCast_nonneg _
      by_cases hpp : p = p'
      · subst hpp
        rw [decide_eq_true rfl, Bool.true_and]
        go_enter Tryd.func128, Tryd.ntmps128
        go_wp2_with fail
        rw [← Hwx.out]
        clear Hwx
        refine wp_region_grow (by kernel_rfl) (by kernel_rfl) ?_
        repeat (go_big_quiet_step (fail))
        refine wpQuiet_nil ?_
        rintro _ ⟨nq, rfl⟩
        have hb1 := hb0.trans (nq.below.mono hb0.size)
        replace Ga0_ := grow_cell (Ga0_ nq)
        replace Ga1_ := grow_cell (Ga1_ nq)
        replace Ga2_ := grow_cell (Ga2_ nq)
        replace Ga3_ := grow_cell (Ga3_ nq)
        replace Ga4_ := grow_cell (Ga4_ nq)
        replace Ga5_ := grow_cell (Ga5_ nq)
        replace Ga6_ := grow_cell (Ga6_ nq)
        replace Gb0_ := grow_cell (Gb0_ nq)
        replace Gb1_ := grow_cell (Gb1_ nq)
        replace Gd0_ := grow_cell (Gd0_ nq)
        replace Gd1_ := grow_cell (Gd1_ nq)
        replace Gu1 := grow_cell (Gu1 nq)
        replace Gu2 := grow_cell (Gu2 nq)
        replace Gv1 := grow_cell (Gv1 nq)
        replace Gv2 := grow_cell (Gv2 nq)
        generalize nq.W = wy at *
        clear nq
        go_wp2_with fail
        refine wp_region_grow (by kernel_rfl) (by kernel_rfl) ?_
        repeat (go_big_quiet_step (fail))
        refine wpQuiet_nil ?_
        rintro _ ⟨nr, rfl⟩
        have hb2 := hb1.trans (nr.below.mono hb1.size)
        have k6 := Ga6_ nr
        by_cases hc2 : cm = 2
        · subst hc2
          go_wp2
          go_ret
          exact ⟨by first | rfl | simp, hb2⟩
        · have e2 : (cm == 2) = false := by simp [hc2]
          go_wp2
          go_ret
          exact ⟨by first | rfl | (simp [hc2]; done) | (simp [hc2]; rfl) | (simp [hc2, Bool.eq_iff_iff]; done), hb2⟩
      · have hne : (p != p') = true := by simp [hpp]
        rw [decide_eq_false hpp, Bool.false_and]
        go_enter Tryd.func128, Tryd.ntmps128
        go_wp2_with fail
        rw [← Hwx.out]
        clear Hwx
        refine wp_region_grow (by kernel_rfl) (by kernel_rfl) ?_
        repeat (go_big_quiet_step (fail))
        refine wpQuiet_nil ?_
        rintro _ ⟨nq, rfl⟩
        have hb1 := hb0.trans (nq.below.mono hb0.size)
        go_wp2
        go_ret
        exact ⟨rfl, hb1⟩
    · rw [decide_eq_true hrx, decide_eq_false hry, Bool.true_and, Bool.false_and]
      have hne : (y.rel != c.r2) = true := by simp [hry]
      have he : (x.rel != c.r1) = false := by simp [hrx]
      clear hx hy HX HY hrx hry
      obtain ⟨r1, r2, j1, j2, c1, c2, cm⟩ := c
      obtain ⟨rx, vx⟩ := x
      obtain ⟨ry, vy⟩ := y
      simp only at *
      generalize vx.length = n at *
      generalize vy.length = m at *
      go_enter Tryd.func128, Tryd.ntmps128
      go_wp2
      go_ret
      exact ⟨rfl, by go_grown⟩
  · rw [decide_eq_false hrx, Bool.false_and]
    have hne : (x.rel != c.r1) = true := by simp [hrx]
    clear hx hy HX HY hrx
    obtain ⟨r1, r2, j1, j2, c1, c2, cm⟩ := c
    obtain ⟨rx, vx⟩ := x
    obtain ⟨ry, vy⟩ := y
    simp only at *
    generalize vx.length = n at *
    generalize vy.length = m at *
    go_enter Tryd.func128, Tryd.ntmps128
    go_wp2
    go_ret
    exact ⟨rfl, by go_grown⟩

end Go.Proofs.YtgipcnofonejcaaDoor
end

section
/- Chapter 9: ViolatesConstraint, the model's. -/
namespace Go.Proofs.YtgipcnofonejcaaDoor
open Go.RowKit
set_option linter.unusedVariables false
set_option maxRecDepth 100000

set_option maxHeartbeats 6400000 in
theorem specViolatesConstraint_c {a0 a1 : Option Addr} {cap0 cap1 : Nat} {x : Dbs} {c : Dcn} {w : World} {i k : Int} (h : At cDbs w x [.slice a0 x.rels.length cap0, .slice a1 x.facts.length cap1]) (hc : At cDcn w c [.int .i64 c.r1, .int .i64 c.r2, .int .i64 c.j1, .int .i64 c.j2, .int .i64 c.c1, .int .i64 c.c2, .int .i64 c.cmp]) :
    Calls Tryd.prog 76 #[.agg #[.slice a0 x.rels.length cap0, .slice a1 x.facts.length cap1], .agg #[.int .i64 c.r1, .int .i64 c.r2, .int .i64 c.j1, .int .i64 c.j2, .int .i64 c.c1, .int .i64 c.c2, .int .i64 c.cmp], .int .i64 i, .int .i64 k] w fun e w' => e = .returned (.bool (violates x c i k)) ∧ Below w.heap.size w w' := by
  have hx1 := (cDbs_inv h).2
  have hm := (slice_len hx1).2
  unfold maxLen at hm
  have HF : Hid (∀ w' : World, Below w.heap.size w w' → ∀ j (hj : j < x.facts.length), _) := fun w' hb j hj => at_Fact (Cod.ok_below hx1 hb) j hj
  have H1 : Hid (∀ ww, Below w.heap.size w ww → Calls Tryd.prog 118 #[.agg #[.slice a0 x.rels.length cap0, .slice a1 x.facts.length cap1], .agg #[.int .i64 c.r1, .int .i64 c.r2, .int .i64 c.j1, .int .i64 c.j2, .int .i64 c.c1, .int .i64 c.c2, .int .i64 c.cmp]] ww fun e w' => e = .returned (.bool (validCon x c)) ∧ Below ww.heap.size ww w') :=
    fun ww hb => specIsValidConstraint_c (At.below h hb (Nat.le_refl _)) (At.below hc hb (Nat.le_refl _))
  have HC : Hid (validCon x c = true → ∀ j (hj : j < x.facts.length), (x.facts[j].rel = c.r1 → hasCols x.facts[j] c.j1 c.c1) ∧ (x.facts[j].rel = c.r2 → hasCols x.facts[j] c.j2 c.c2)) := fun hv j hj => con_cols hv j hj
  have HM : Hid (validCon x c = true → c.cmp = 1 ∨ c.cmp = 2) := fun hv => con_cmp hv
  clear h hc hx1
  unfold violates
  obtain ⟨xr, l⟩ := x
  simp only at *
  obtain ⟨nf, hn⟩ : ∃ n : Nat, l.length = n := ⟨_, rfl⟩
  have Hn := Lib.hid hn
  rw [hn] at hm H1 ⊢
  clear hn
  generalize xr.length = n0 at *
  generalize hVV : validCon ⟨xr, l⟩ c = V at *
  clear hVV
  have hwn : wrap64 ((nf : Int) - 1) = (nf : Int) - 1 := IntWalk.wrap64_in _ ⟨by omega, by omega⟩
  have hI : inB i 0 ((nf : Int) - 1) = true → 0 ≤ i ∧ i ≤ (nf : Int) - 1 := by unfold inB; simp
  have hK : inB k 0 ((nf : Int) - 1) = true → 0 ≤ k ∧ k ≤ (nf : Int) - 1 := by unfold inB; simp
  have HI : Hid (∀ ww, Calls Tryd.prog 99 #[.int .i64 i, .int .i64 0, .int .i64 ((nf : Int) - 1)] ww fun e w' => e = .returned (.bool (inB i 0 ((nf : Int) - 1))) ∧ ww = w') := fun ww => l1In_any _ _ _ _
  have HK : Hid (∀ ww, Calls Tryd.prog 99 #[.int .i64 k, .int .i64 0, .int .i64 ((nf : Int) - 1)] ww fun e w' => e = .returned (.bool (inB k 0 ((nf : Int) - 1))) ∧ ww = w') := fun ww => l1In_any _ _ _ _
  generalize hII : inB i 0 ((nf : Int) - 1) = I at *
  generalize hKK : inB k 0 ((nf : Int) - 1) = K at *
  clear hII hKK
  cases V with
  | false =>
    clear HF HC HM hI hK
    rw [Bool.false_and]
    obtain ⟨r1, r2, j1, j2, c1, c2, cm⟩ := c
    simp only at *
    obtain ⟨wx, hwx⟩ : ∃ wx, wx = (w.alloc (Obj.cells #[.slice a0 n0 cap0, .slice a1 nf cap1] 34)).alloc (Obj.cells #[.int .i64 r1, .int .i64 r2, .int .i64 j1, .int .i64 j2, .int .i64 c1, .int .i64 c2, .int .i64 cm] 69) := ⟨_, rfl⟩
    have hb0 : Below w.heap.size w wx := by rw [hwx]; go_grown
    have q0 : wx.cell? ⟨w.heap.size, 0, none⟩ = some (.slice a0 n0 cap0) := by rw [hwx]; go_simp
    have q1 : wx.cell? ⟨w.heap.size, 1, none⟩ = some (.slice a1 nf cap1) := by rw [hwx]; go_simp
    have p0 : wx.cell? ⟨w.heap.size + 1, 0, none⟩ = some (.int .i64 r1) := by rw [hwx]; go_simp
    have p1 : wx.cell? ⟨w.heap.size + 1, 1, none⟩ = some (.int .i64 r2) := by rw [hwx]; go_simp
    have p2 : wx.cell? ⟨w.heap.size + 1, 2, none⟩ = some (.int .i64 j1) := by rw [hwx]; go_simp
    have p3 : wx.cell? ⟨w.heap.size + 1, 3, none⟩ = some (.int .i64 j2) := by rw [hwx]; go_simp
    have p4 : wx.cell? ⟨w.heap.size + 1, 4, none⟩ = some (.int .i64 c1) := by rw [hwx]; go_simp
    have p5 : wx.cell? ⟨w.heap.size + 1, 5, none⟩ = some (.int .i64 c2) := by rw [hwx]; go_simp
    have p6 : wx.cell? ⟨w.heap.size + 1, 6, none⟩ = some (.int .i64 cm) := by rw [hwx]; go_simp
    have Hwx := Lib.hid hwx
    clear hwx
    go_enter Tryd.func76, Tryd.ntmps76
    go_wp2_with fail
    rw [← Hwx.out]
    clear Hwx
    refine (H1.out _ hb0).mono ?_
    rintro e w1 ⟨rfl, hb1⟩
    have hbb : Below w.heap.size w w1 := hb0.trans (hb1.mono hb0.size)
    go_wp2
    go_ret
    exact ⟨by first | rfl | simp, hbb⟩
  | true =>
    rw [Bool.true_and]
    cases I with
    | false =>
      clear HF HC HM hI hK
      rw [Bool.false_and]
      obtain ⟨r1, r2, j1, j2, c1, c2, cm⟩ := c
      simp only at *
      obtain ⟨wx, hwx⟩ : ∃ wx, wx = (w.alloc (Obj.cells #[.slice a0 n0 cap0, .slice a1 nf cap1] 34)).alloc (Obj.cells #[.int .i64 r1, .int .i64 r2, .int .i64 j1, .int .i64 j2, .int .i64 c1, .int .i64 c2, .int .i64 cm] 69) := ⟨_, rfl⟩
      have hb0 : Below w.heap.size w wx := by rw [hwx]; go_grown
      have q0 : wx.cell? ⟨w.heap.size, 0, none⟩ = some (.slice a0 n0 cap0) := by rw [hwx]; go_simp
      have q1 : wx.cell? ⟨w.heap.size, 1, none⟩ = some (.slice a1 nf cap1) := by rw [hwx]; go_simp
      have p0 : wx.cell? ⟨w.heap.size + 1, 0, none⟩ = some (.int .i64 r1) := by rw [hwx]; go_simp
      have p1 : wx.cell? ⟨w.heap.size + 1, 1, none⟩ = some (.int .i64 r2) := by rw [hwx]; go_simp
      have p2 : wx.cell? ⟨w.heap.size + 1, 2, none⟩ = some (.int .i64 j1) := by rw [hwx]; go_simp
      have p3 : wx.cell? ⟨w.heap.size + 1, 3, none⟩ = some (.int .i64 j2) := by rw [hwx]; go_simp
      have p4 : wx.cell? ⟨w.heap.size + 1, 4, none⟩ = some (.int .i64 c1) := by rw [hwx]; go_simp
      have p5 : wx.cell? ⟨w.heap.size + 1, 5, none⟩ = some (.int .i64 c2) := by rw [hwx]; go_simp
      have p6 : wx.cell? ⟨w.heap.size + 1, 6, none⟩ = some (.int .i64 cm) := by rw [hwx]; go_simp
      have Hwx := Lib.hid hwx
      clear hwx
      go_enter Tryd.func76, Tryd.ntmps76
      go_wp2_with fail
      rw [← Hwx.out]
      clear Hwx
      refine (H1.out _ hb0).mono ?_
      rintro e w1 ⟨rfl, hb1⟩
      have hbb : Below w.heap.size w w1 := hb0.trans (hb1.mono hb0.size)
      replace q0 := cell_next q0 hb1
      replace q1 := cell_next q1 hb1
      replace p0 := cell_next p0 hb1
      replace p1 := cell_next p1 hb1
      replace p2 := cell_next p2 hb1
      replace p3 := cell_next p3 hb1
      replace p4 := cell_next p4 hb1
      replace p5 := cell_next p5 hb1
      replace p6 := cell_next p6 hb1
      clear hb0 hb1 H1
      go_wp2_with fail
      refine (HI.out _).mono ?_
      rintro e w' ⟨rfl, rfl⟩
      go_wp2
      go_ret
      exact ⟨by first | rfl | simp, hbb⟩
    | true =>
      rw [Bool.true_and]
      cases K with
      | false =>
        clear HF HC HM hI hK
        rw [Bool.false_and]
        obtain ⟨r1, r2, j1, j2, c1, c2, cm⟩ := c
        simp only at *
        obtain ⟨wx, hwx⟩ : ∃ wx, wx = (w.alloc (Obj.cells #[.slice a0 n0 cap0, .slice a1 nf cap1] 34)).alloc (Obj.cells #[.int .i64 r1, .int .i64 r2, .int .i64 j1, .int .i64 j2, .int .i64 c1, .int .i64 c2, .int .i64 cm] 69) := ⟨_, rfl⟩
        have hb0 : Below w.heap.size w wx := by rw [hwx]; go_grown
        have q0 : wx.cell? ⟨w.heap.size, 0, none⟩ = some (.slice a0 n0 cap0) := by rw [hwx]; go_simp
        have q1 : wx.cell? ⟨w.heap.size, 1, none⟩ = some (.slice a1 nf cap1) := by rw [hwx]; go_simp
        have p0 : wx.cell? ⟨w.heap.size + 1, 0, none⟩ = some (.int .i64 r1) := by rw [hwx]; go_simp
        have p1 : wx.cell? ⟨w.heap.size + 1, 1, none⟩ = some (.int .i64 r2) := by rw [hwx]; go_simp
        have p2 : wx.cell? ⟨w.heap.size + 1, 2, none⟩ = some (.int .i64 j1) := by rw [hwx]; go_simp
        have p3 : wx.cell? ⟨w.heap.size + 1, 3, none⟩ = some (.int .i64 j2) := by rw [hwx]; go_simp
        have p4 : wx.cell? ⟨w.heap.size + 1, 4, none⟩ = some (.int .i64 c1) := by rw [hwx]; go_simp
        have p5 : wx.cell? ⟨w.heap.size + 1, 5, none⟩ = some (.int .i64 c2) := by rw [hwx]; go_simp
        have p6 : wx.cell? ⟨w.heap.size + 1, 6, none⟩ = some (.int .i64 cm) := by rw [hwx]; go_simp
        have Hwx := Lib.hid hwx
        clear hwx
        go_enter Tryd.func76, Tryd.ntmps76
        go_wp2_with fail
        rw [← Hwx.out]
        clear Hwx
        refine (H1.out _ hb0).mono ?_
        rintro e w1 ⟨rfl, hb1⟩
        have hbb : Below w.heap.size w w1 := hb0.trans (hb1.mono hb0.size)
        replace q0 := cell_next q0 hb1
        replace q1 := cell_next q1 hb1
        replace p0 := cell_next p0 hb1
        replace p1 := cell_next p1 hb1
        replace p2 := cell_next p2 hb1
        replace p3 := cell_next p3 hb1
        replace p4 := cell_next p4 hb1
        replace p5 := cell_next p5 hb1
        replace p6 := cell_next p6 hb1
        clear hb0 hb1 H1
        go_wp2_with fail
        refine (HI.out _).mono ?_
        rintro e w' ⟨rfl, rfl⟩
        go_wp2_with fail
        refine (HK.out _).mono ?_
        rintro e w' ⟨rfl, rfl⟩
        go_wp2
        go_ret
        exact ⟨by first | rfl | simp, hbb⟩
      | true =>
        rw [Bool.true_and]
        by_cases hik : i = k
        · rw [decide_eq_true hik]
          have hne : (i == k) = true := by simp [hik]
          clear HF HC HM hI hK hik
          obtain ⟨r1, r2, j1, j2, c1, c2, cm⟩ := c
          simp only at *
          obtain ⟨wx, hwx⟩ : ∃ wx, wx = (w.alloc (Obj.cells #[.slice a0 n0 cap0, .slice a1 nf cap1] 34)).alloc (Obj.cells #[.int .i64 r1, .int .i64 r2, .int .i64 j1, .int .i64 j2, .int .i64 c1, .int .i64 c2, .int .i64 cm] 69) := ⟨_, rfl⟩
          have hb0 : Below w.heap.size w wx := by rw [hwx]; go_grown
          have q0 : wx.cell? ⟨w.heap.size, 0, none⟩ = some (.slice a0 n0 cap0) := by rw [hwx]; go_simp
          have q1 : wx.cell? ⟨w.heap.size, 1, none⟩ = some (.slice a1 nf cap1) := by rw [hwx]; go_simp
          have p0 : wx.cell? ⟨w.heap.size + 1, 0, none⟩ = some (.int .i64 r1) := by rw [hwx]; go_simp
          have p1 : wx.cell? ⟨w.heap.size + 1, 1, none⟩ = some (.int .i64 r2) := by rw [hwx]; go_simp
          have p2 : wx.cell? ⟨w.heap.size + 1, 2, none⟩ = some (.int .i64 j1) := by rw [hwx]; go_simp
          have p3 : wx.cell? ⟨w.heap.size + 1, 3, none⟩ = some (.int .i64 j2) := by rw [hwx]; go_simp
          have p4 : wx.cell? ⟨w.heap.size + 1, 4, none⟩ = some (.int .i64 c1) := by rw [hwx]; go_simp
          have p5 : wx.cell? ⟨w.heap.size + 1, 5, none⟩ = some (.int .i64 c2) := by rw [hwx]; go_simp
          have p6 : wx.cell? ⟨w.heap.size + 1, 6, none⟩ = some (.int .i64 cm) := by rw [hwx]; go_simp
          have Hwx := Lib.hid hwx
          clear hwx
          go_enter Tryd.func76, Tryd.ntmps76
          go_wp2_with fail
          rw [← Hwx.out]
          clear Hwx
          refine (H1.out _ hb0).mono ?_
          rintro e w1 ⟨rfl, hb1⟩
          have hbb : Below w.heap.size w w1 := hb0.trans (hb1.mono hb0.size)
          replace q0 := cell_next q0 hb1
          replace q1 := cell_next q1 hb1
          replace p0 := cell_next p0 hb1
          replace p1 := cell_next p1 hb1
          replace p2 := cell_next p2 hb1
          replace p3 := cell_next p3 hb1
          replace p4 := cell_next p4 hb1
          replace p5 := cell_next p5 hb1
          replace p6 := cell_next p6 hb1
          clear hb0 hb1 H1
          go_wp2_with fail
          refine (HI.out _).mono ?_
          rintro e w' ⟨rfl, rfl⟩
          go_wp2_with fail
          refine (HK.out _).mono ?_
          rintro e w' ⟨rfl, rfl⟩
          go_wp2
          go_ret
          exact ⟨by first | rfl | simp, hbb⟩
        · rw [decide_eq_false hik, Bool.not_false, Bool.true_and]
          obtain ⟨ha, hb⟩ := hI rfl
          obtain ⟨ha', hb'⟩ := hK rfl
          clear hI hK
          obtain ⟨i, rfl⟩ := Int.eq_ofNat_of_zero_le ha
          obtain ⟨k, rfl⟩ := Int.eq_ofNat_of_zero_le ha'
          have hi : i < l.length := by rw [Hn.out]; omega
          have hk : k < l.length := by rw [Hn.out]; omega
          have hlti : (i : Int) < (nf : Int) := by omega
          have hltk : (k : Int) < (nf : Int) := by omega
          have hne : ((i : Int) == (k : Int)) = false := by simp; omega
          have hne2 : (i == k) = false := by simp; omega
          have hci := (HC.out rfl i hi).1
          have hck := (HC.out rfl k hk).2
          have hcm := HM.out rfl
          have hfa : forbAt ⟨xr, l⟩ c (i : Int) (k : Int) = forb c l[i] l[k] := by
            unfold forbAt
            rw [show (i : Int).toNat = i from rfl, show (k : Int).toNat = k from rfl, List.getElem?_eq_getElem hi, List.getElem?_eq_getElem hk]
          rw [hfa]
          clear hfa HC HM hik ha ha' hb hb'
          have Hci := Lib.hid hci
          have Hck := Lib.hid hck
          have Hcm := Lib.hid hcm
          clear hci hck hcm
          obtain ⟨b, off, av, cv, rfl, hbB, x0, x1, hx⟩ := HF.out _ (Below.refl _ _) i hi
          obtain ⟨b', off', av', cv', e', hbB', y0, y1, hy⟩ := HF.out _ (Below.refl _ _) k hk
          obtain ⟨rfl, rfl⟩ : b = b' ∧ off = off' := by simp at e'; exact e'
          have hX := (cFct_inv hx).1
          have hY := (cFct_inv hy).1
          have hmx := (slice_len hX).2
          have hmy := (slice_len hY).2
          unfold maxLen at hmx hmy
          have HX : Hid (∀ j (hj : j < l[i].vals.length), _) := fun j hj => ints_at hX j hj
          have HY : Hid (∀ j (hj : j < l[k].vals.length), _) := fun j hj => ints_at hY j hj
          clear e' hx hy hX hY hbB' HF
          unfold forb
          generalize l[i] = x at *
          generalize l[k] = y at *
          obtain ⟨rx, vx⟩ := x
          obtain ⟨ry, vy⟩ := y
          obtain ⟨r1, r2, j1, j2, c1, c2, cm⟩ := c
          simp only at *
          by_cases hrx : rx = r1
          · by_cases hry : ry = r2
            · subst hrx
              subst hry
              rw [decide_eq_true rfl, decide_eq_true rfl, Bool.true_and, Bool.true_and]
              obtain ⟨ha, hb, hc, hd⟩ := Hci.out rfl
              obtain ⟨ha', hb', hc', hd'⟩ := Hck.out rfl
              simp only at ha hb hc hd ha' hb' hc' hd'
              clear Hci Hck
              obtain ⟨j1, rfl⟩ := Int.eq_ofNat_of_zero_le ha
              obtain ⟨c1, rfl⟩ := Int.eq_ofNat_of_zero_le hc
              obtain ⟨j2, rfl⟩ := Int.eq_ofNat_of_zero_le ha'
              obtain ⟨c2, rfl⟩ := Int.eq_ofNat_of_zero_le hc'
              have hj1 : j1 < vx.length := by omega
              have hc1 : c1 < vx.length := by omega
              have hj2 : j2 < vy.length := by omega
              have hc2 : c2 < vy.length := by omega
              rw [valAt_nat (x := ⟨rx, vx⟩) hj1, valAt_nat (x := ⟨rx, vx⟩) hc1, valAt_nat (x := ⟨ry, vy⟩) hj2, valAt_nat (x := ⟨ry, vy⟩) hc2]
              obtain ⟨d, of1, rfl, hdB, u1⟩ := HX.out j1 hj1
              obtain ⟨d', of1', e', hdB', u2⟩ := HX.out c1 hc1
              obtain ⟨rfl, rfl⟩ : d = d' ∧ of1 = of1' := by simp at e'; exact e'
              obtain ⟨f, of2, rfl, hfB, v1⟩ := HY.out j2 hj2
              obtain ⟨f', of2', e2, hfB', v2⟩ := HY.out c2 hc2
              obtain ⟨rfl, rfl⟩ : f = f' ∧ of2 = of2' := by simp at e2; exact e2
              clear HX HY e' e2 hdB' hfB' ha hb hc hd ha' hb' hc' hd'
              simp only
              generalize vx[j1] = p at *
              generalize vx[c1] = q at *
              generalize vy[j2] = p' at *
              generalize vy[c2] = q' at *
              obtain ⟨n, hn⟩ : ∃ n : Nat, vx.length = n := ⟨_, rfl⟩
              obtain ⟨m, hm2⟩ : ∃ n : Nat, vy.length = n := ⟨_, rfl⟩
              rw [hn] at hj1 hc1 hmx x1
              rw [hm2] at hj2 hc2 hmy y1
              clear hn hm2
              have i1 : (0 : Int) ≤ (j1 : Int) := Int.natCast_nonneg _
              have i2 : (0 : Int) ≤ (j2 : Int) := Int.natCast_nonneg _
              have i3 : (0 : Int) ≤ (c1 : Int) := Int.natCast_nonneg _
              have i4 : (0 : Int) ≤ (c2 : Int) := Int.natCast_nonneg _
              by_cases hpp : p = p'
              · subst hpp
                rw [decide_eq_true rfl, Bool.true_and]
                rcases Hcm.out with hcm | hcm
                · subst hcm
                  clear Hcm
                  obtain ⟨wx, hwx⟩ : ∃ wx, wx = (w.alloc (Obj.cells #[.slice a0 n0 cap0, .slice (some ⟨b, off, none⟩) nf cap1] 34)).alloc (Obj.cells #[.int .i64 rx, .int .i64 ry, .int .i64 j1, .int .i64 j2, .int .i64 c1, .int .i64 c2, .int .i64 1] 69) := ⟨_, rfl⟩
                  have hb0 : Below w.heap.size w wx := by rw [hwx]; go_grown
                  have q0 : wx.cell? ⟨w.heap.size, 0, none⟩ = some (.slice a0 n0 cap0) := by rw [hwx]; go_simp
                  have q1 : wx.cell? ⟨w.heap.size, 1, none⟩ = some (.slice (some ⟨b, off, none⟩) nf cap1) := by rw [hwx]; go_simp
                  have p0 : wx.cell? ⟨w.heap.size + 1, 0, none⟩ = some (.int .i64 rx) := by rw [hwx]; go_simp
                  have p1 : wx.cell? ⟨w.heap.size + 1, 1, none⟩ = some (.int .i64 ry) := by rw [hwx]; go_simp
                  have p2 : wx.cell? ⟨w.heap.size + 1, 2, none⟩ = some (.int .i64 j1) := by rw [hwx]; go_simp
                  have p3 : wx.cell? ⟨w.heap.size + 1, 3, none⟩ = some (.int .i64 j2) := by rw [hwx]; go_simp
                  have p4 : wx.cell? ⟨w.heap.size + 1, 4, none⟩ = some (.int .i64 c1) := by rw [hwx]; go_simp
                  have p5 : wx.cell? ⟨w.heap.size + 1, 5, none⟩ = some (.int .i64 c2) := by rw [hwx]; go_simp
                  have p6 : wx.cell? ⟨w.heap.size + 1, 6, none⟩ = some (.int .i64 1) := by rw [hwx]; go_simp
                  have Hwx := Lib.hid hwx
                  clear hwx
                  replace x0 := cell_next x0 hb0
                  replace x1 := cell_next x1 hb0
                  replace y0 := cell_next y0 hb0
                  replace y1 := cell_next y1 hb0
                  replace u1 := cell_next u1 hb0
                  replace u2 := cell_next u2 hb0
                  replace v1 := cell_next v1 hb0
                  replace v2 := cell_next v2 hb0
                  go_enter Tryd.func76, Tryd.ntmps76
                  go_wp2_with fail
                  rw [← Hwx.out]
                  clear Hwx
                  refine (H1.out _ hb0).mono ?_
                  rintro e w1 ⟨rfl, hb1⟩
                  have hbb : Below w.heap.size w w1 := hb0.trans (hb1.mono hb0.size)
                  replace x0 := cell_next x0 hb1
                  replace x1 := cell_next x1 hb1
                  replace y0 := cell_next y0 hb1
                  replace y1 := cell_next y1 hb1
                  replace u1 := cell_next u1 hb1
                  replace u2 := cell_next u2 hb1
                  replace v1 := cell_next v1 hb1
                  replace v2 := cell_next v2 hb1
                  replace q0 := cell_next q0 hb1
                  replace q1 := cell_next q1 hb1
                  replace p0 := cell_next p0 hb1
                  replace p1 := cell_next p1 hb1
                  replace p2 := cell_next p2 hb1
                  replace p3 := cell_next p3 hb1
                  replace p4 := cell_next p4 hb1
                  replace p5 := cell_next p5 hb1
                  replace p6 := cell_next p6 hb1
                  clear hb0 hb1 H1
                  have L0 := World.block_lt_of_cell? w1 _ q1
                  have L1 := World.block_lt_of_cell? w1 _ p0
                  have L2 := World.block_lt_of_cell? w1 _ x0
                  have L3 := World.block_lt_of_cell? w1 _ x1
                  have L4 := World.block_lt_of_cell? w1 _ y0
                  have L5 := World.block_lt_of_cell? w1 _ y1
                  have L6 := World.block_lt_of_cell? w1 _ u1
                  have L7 := World.block_lt_of_cell? w1 _ u2
                  have L8 := World.block_lt_of_cell? w1 _ v1
                  have L9 := World.block_lt_of_cell? w1 _ v2
                  simp only at L0 L1 L2 L3 L4 L5 L6 L7 L8 L9
                  go_wp2_with fail
                  refine (HI.out _).mono ?_
                  rintro e w' ⟨rfl, rfl⟩
                  go_wp2_with fail
                  refine (HK.out _).mono ?_
                  rintro e w' ⟨rfl, rfl⟩
                  go_wp2_with fail
                  obtain ⟨wy, hwy⟩ : ∃ wy, wy = (w1.alloc (Obj.cells #[.int .i64 rx, .slice (some ⟨d, of1, none⟩) n cv] 102)).alloc (Obj.cells #[.int .i64 ry, .slice (some ⟨f, of2, none⟩) m cv'] 102) := ⟨_, rfl⟩
                  rw [← hwy]
                  have hb2 : Below w1.heap.size w1 wy := by rw [hwy]; go_grown
                  have Ga := grow_cell (w := wy) (p := ⟨w1.heap.size, 0, none⟩) (v := .int .i64 rx) (by rw [hwy]; go_simp)
                  have Gb := grow_cell (w := wy) (p := ⟨w1.heap.size, 1, none⟩) (v := .slice (some ⟨d, of1, none⟩) n cv) (by rw [hwy]; go_simp)
                  have Gc := grow_cell (w := wy) (p := ⟨w1.heap.size + 1, 0, none⟩) (v := .int .i64 ry) (by rw [hwy]; go_simp)
                  have Gd := grow_cell (w := wy) (p := ⟨w1.heap.size + 1, 1, none⟩) (v := .slice (some ⟨f, of2, none⟩) m cv') (by rw [hwy]; go_simp)
                  have Gx0 := grow_cell (cell_next x0 hb2)
                  have Gx1 := grow_cell (cell_next x1 hb2)
                  have Gy0 := grow_cell (cell_next y0 hb2)
                  have Gy1 := grow_cell (cell_next y1 hb2)
                  have Gu1 := grow_cell (cell_next u1 hb2)
                  have Gu2 := grow_cell (cell_next u2 hb2)
                  have Gv1 := grow_cell (cell_next v1 hb2)
                  have Gv2 := grow_cell (cell_next v2 hb2)
                  have Gp0 := grow_cell (cell_next p0 hb2)
                  have Gp1 := grow_cell (cell_next p1 hb2)
                  have Gp2 := grow_cell (cell_next p2 hb2)
                  have Gp3 := grow_cell (cell_next p3 hb2)
                  have Gp4 := grow_cell (cell_next p4 hb2)
                  have Gp5 := grow_cell (cell_next p5 hb2)
                  have Gp6 := grow_cell (cell_next p6 hb2)
                  have hbc : Below w.heap.size w wy := hbb.trans (hb2.mono hbb.size)
                  clear hwy hb2 x0 x1 y0 y1 u1 u2 v1 v2 p0 p1 p2 p3 p4 p5 p6 L0 L1 L2 L3 L4 L5 L6 L7 L8 L9
                  refine wp_region_grow (by kernel_rfl) (by kernel_rfl) ?_
                  repeat (go_big_quiet_step (fail))
                  refine wpQuiet_nil ?_
                  rintro _ ⟨nq, rfl⟩
                  have hbd : Below w.heap.size w nq.W := hbc.trans (nq.below.mono hbc.size)
                  have KGa := Ga nq
                  have KGb := Gb nq
                  have KGc := Gc nq
                  have KGd := Gd nq
                  have KGx0 := Gx0 nq
                  have KGx1 := Gx1 nq
                  have KGy0 := Gy0 nq
                  have KGy1 := Gy1 nq
                  have KGu1 := Gu1 nq
                  have KGu2 := Gu2 nq
                  have KGv1 := Gv1 nq
                  have KGv2 := Gv2 nq
                  have KGp0 := Gp0 nq
                  have KGp1 := Gp1 nq
                  have KGp2 := Gp2 nq
                  have KGp3 := Gp3 nq
                  have KGp4 := Gp4 nq
                  have KGp5 := Gp5 nq
                  have KGp6 := Gp6 nq
                  replace Ga := grow_cell KGa
                  replace Gb := grow_cell KGb
                  replace Gc := grow_cell KGc
                  replace Gd := grow_cell KGd
                  replace Gx0 := grow_cell KGx0
                  replace Gx1 := grow_cell KGx1
                  replace Gy0 := grow_cell KGy0
                  replace Gy1 := grow_cell KGy1
                  replace Gu1 := grow_cell KGu1
                  replace Gu2 := grow_cell KGu2
                  replace Gv1 := grow_cell KGv1
                  replace Gv2 := grow_cell KGv2
                  replace Gp0 := grow_cell KGp0
                  replace Gp1 := grow_cell KGp1
                  replace Gp2 := grow_cell KGp2
                  replace Gp3 := grow_cell KGp3
                  replace Gp4 := grow_cell KGp4
                  replace Gp5 := grow_cell KGp5
                  replace Gp6 := grow_cell KGp6
                  generalize nq.W = wz at *
                  go_wp2_with fail
                  refine wp_region_grow (by kernel_rfl) (by kernel_rfl) ?_
                  repeat (go_big_quiet_step (fail))
                  refine wpQuiet_nil ?_
                  rintro _ ⟨nr, rfl⟩
                  go_wp2
                  go_ret
                  exact ⟨by first | rfl | (simp; done) | (simp; rfl), hbd.trans (nr.below.mono hbd.size)⟩
                · subst hcm
                  clear Hcm
                  obtain ⟨wx, hwx⟩ : ∃ wx, wx = (w.alloc (Obj.cells #[.slice a0 n0 cap0, .slice (some ⟨b, off, none⟩) nf cap1] 34)).alloc (Obj.cells #[.int .i64 rx, .int .i64 ry, .int .i64 j1, .int .i64 j2, .int .i64 c1, .int .i64 c2, .int .i64 2] 69) := ⟨_, rfl⟩
                  have hb0 : Below w.heap.size w wx := by rw [hwx]; go_grown
                  have q0 : wx.cell? ⟨w.heap.size, 0, none⟩ = some (.slice a0 n0 cap0) := by rw [hwx]; go_simp
                  have q1 : wx.cell? ⟨w.heap.size, 1, none⟩ = some (.slice (some ⟨b, off, none⟩) nf cap1) := by rw [hwx]; go_simp
                  have p0 : wx.cell? ⟨w.heap.size + 1, 0, none⟩ = some (.int .i64 rx) := by rw [hwx]; go_simp
                  have p1 : wx.cell? ⟨w.heap.size + 1, 1, none⟩ = some (.int .i64 ry) := by rw [hwx]; go_simp
                  have p2 : wx.cell? ⟨w.heap.size + 1, 2, none⟩ = some (.int .i64 j1) := by rw [hwx]; go_simp
                  have p3 : wx.cell? ⟨w.heap.size + 1, 3, none⟩ = some (.int .i64 j2) := by rw [hwx]; go_simp
                  have p4 : wx.cell? ⟨w.heap.size + 1, 4, none⟩ = some (.int .i64 c1) := by rw [hwx]; go_simp
                  have p5 : wx.cell? ⟨w.heap.size + 1, 5, none⟩ = some (.int .i64 c2) := by rw [hwx]; go_simp
                  have p6 : wx.cell? ⟨w.heap.size + 1, 6, none⟩ = some (.int .i64 2) := by rw [hwx]; go_simp
                  have Hwx := Lib.hid hwx
                  clear hwx
                  replace x0 := cell_next x0 hb0
                  replace x1 := cell_next x1 hb0
                  replace y0 := cell_next y0 hb0
                  replace y1 := cell_next y1 hb0
                  replace u1 := cell_next u1 hb0
                  replace u2 := cell_next u2 hb0
                  replace v1 := cell_next v1 hb0
                  replace v2 := cell_next v2 hb0
                  go_enter Tryd.func76, Tryd.ntmps76
                  go_wp2_with fail
                  rw [← Hwx.out]
                  clear Hwx
                  refine (H1.out _ hb0).mono ?_
                  rintro e w1 ⟨rfl, hb1⟩
                  have hbb : Below w.heap.size w w1 := hb0.trans (hb1.mono hb0.size)
                  replace x0 := cell_next x0 hb1
                  replace x1 := cell_next x1 hb1
                  replace y0 := cell_next y0 hb1
                  replace y1 := cell_next y1 hb1
                  replace u1 := cell_next u1 hb1
                  replace u2 := cell_next u2 hb1
                  replace v1 := cell_next v1 hb1
                  replace v2 := cell_next v2 hb1
                  replace q0 := cell_next q0 hb1
                  replace q1 := cell_next q1 hb1
                  replace p0 := cell_next p0 hb1
                  replace p1 := cell_next p1 hb1
                  replace p2 := cell_next p2 hb1
                  replace p3 := cell_next p3 hb1
                  replace p4 := cell_next p4 hb1
                  replace p5 := cell_next p5 hb1
                  replace p6 := cell_next p6 hb1
                  clear hb0 hb1 H1
                  have L0 := World.block_lt_of_cell? w1 _ q1
                  have L1 := World.block_lt_of_cell? w1 _ p0
                  have L2 := World.block_lt_of_cell? w1 _ x0
                  have L3 := World.block_lt_of_cell? w1 _ x1
                  have L4 := World.block_lt_of_cell? w1 _ y0
                  have L5 := World.block_lt_of_cell? w1 _ y1
                  have L6 := World.block_lt_of_cell? w1 _ u1
                  have L7 := World.block_lt_of_cell? w1 _ u2
                  have L8 := World.block_lt_of_cell? w1 _ v1
                  have L9 := World.block_lt_of_cell? w1 _ v2
                  simp only at L0 L1 L2 L3 L4 L5 L6 L7 L8 L9
                  go_wp2_with fail
                  refine (HI.out _).mono ?_
                  rintro e w' ⟨rfl, rfl⟩
                  go_wp2_with fail
                  refine (HK.out _).mono ?_
                  rintro e w' ⟨rfl, rfl⟩
                  go_wp2_with fail
                  obtain ⟨wy, hwy⟩ : ∃ wy, wy = (w1.alloc (Obj.cells #[.int .i64 rx, .slice (some ⟨d, of1, none⟩) n cv] 102)).alloc (Obj.cells #[.int .i64 ry, .slice (some ⟨f, of2, none⟩) m cv'] 102) := ⟨_, rfl⟩
                  rw [← hwy]
                  have hb2 : Below w1.heap.size w1 wy := by rw [hwy]; go_grown
                  have Ga := grow_cell (w := wy) (p := ⟨w1.heap.size, 0, none⟩) (v := .int .i64 rx) (by rw [hwy]; go_simp)
                  have Gb := grow_cell (w := wy) (p := ⟨w1.heap.size, 1, none⟩) (v := .slice (some ⟨d, of1, none⟩) n cv) (by rw [hwy]; go_simp)
                  have Gc := grow_cell (w := wy) (p := ⟨w1.heap.size + 1, 0, none⟩) (v := .int .i64 ry) (by rw [hwy]; go_simp)
                  have Gd := grow_cell (w := wy) (p := ⟨w1.heap.size + 1, 1, none⟩) (v := .slice (some ⟨f, of2, none⟩) m cv') (by rw [hwy]; go_simp)
                  have Gx0 := grow_cell (cell_next x0 hb2)
                  have Gx1 := grow_cell (cell_next x1 hb2)
                  have Gy0 := grow_cell (cell_next y0 hb2)
                  have Gy1 := grow_cell (cell_next y1 hb2)
                  have Gu1 := grow_cell (cell_next u1 hb2)
                  have Gu2 := grow_cell (cell_next u2 hb2)
                  have Gv1 := grow_cell (cell_next v1 hb2)
                  have Gv2 := grow_cell (cell_next v2 hb2)
                  have Gp0 := grow_cell (cell_next p0 hb2)
                  have Gp1 := grow_cell (cell_next p1 hb2)
                  have Gp2 := grow_cell (cell_next p2 hb2)
                  have Gp3 := grow_cell (cell_next p3 hb2)
                  have Gp4 := grow_cell (cell_next p4 hb2)
                  have Gp5 := grow_cell (cell_next p5 hb2)
                  have Gp6 := grow_cell (cell_next p6 hb2)
                  have hbc : Below w.heap.size w wy := hbb.trans (hb2.mono hbb.size)
                  clear hwy hb2 x0 x1 y0 y1 u1 u2 v1 v2 p0 p1 p2 p3 p4 p5 p6 L0 L1 L2 L3 L4 L5 L6 L7 L8 L9
                  refine wp_region_grow (by kernel_rfl) (by kernel_rfl) ?_
                  repeat (go_big_quiet_step (fail))
                  refine wpQuiet_nil ?_
                  rintro _ ⟨nq, rfl⟩
                  have hbd : Below w.heap.size w nq.W := hbc.trans (nq.below.mono hbc.size)
                  have KGa := Ga nq
                  have KGb := Gb nq
                  have KGc := Gc nq
                  have KGd := Gd nq
                  have KGx0 := Gx0 nq
                  have KGx1 := Gx1 nq
                  have KGy0 := Gy0 nq
                  have KGy1 := Gy1 nq
                  have KGu1 := Gu1 nq
                  have KGu2 := Gu2 nq
                  have KGv1 := Gv1 nq
                  have KGv2 := Gv2 nq
                  have KGp0 := Gp0 nq
                  have KGp1 := Gp1 nq
                  have KGp2 := Gp2 nq
                  have KGp3 := Gp3 nq
                  have KGp4 := Gp4 nq
                  have KGp5 := Gp5 nq
                  have KGp6 := Gp6 nq
                  replace Ga := grow_cell KGa
                  replace Gb := grow_cell KGb
                  replace Gc := grow_cell KGc
                  replace Gd := grow_cell KGd
                  replace Gx0 := grow_cell KGx0
                  replace Gx1 := grow_cell KGx1
                  replace Gy0 := grow_cell KGy0
                  replace Gy1 := grow_cell KGy1
                  replace Gu1 := grow_cell KGu1
                  replace Gu2 := grow_cell KGu2
                  replace Gv1 := grow_cell KGv1
                  replace Gv2 := grow_cell KGv2
                  replace Gp0 := grow_cell KGp0
                  replace Gp1 := grow_cell KGp1
                  replace Gp2 := grow_cell KGp2
                  replace Gp3 := grow_cell KGp3
                  replace Gp4 := grow_cell KGp4
                  replace Gp5 := grow_cell KGp5
                  replace Gp6 := grow_cell KGp6
                  generalize nq.W = wz at *
                  go_wp2_with fail
                  refine wp_region_grow (by kernel_rfl) (by kernel_rfl) ?_
                  repeat (go_big_quiet_step (fail))
                  refine wpQuiet_nil ?_
                  rintro _ ⟨nr, rfl⟩
                  go_wp2
                  go_ret
                  exact ⟨by first | rfl | (simp; done) | (simp; rfl), hbd.trans (nr.below.mono hbd.size)⟩
              · have hpn : (p != p') = true := by simp [hpp]
                clear Hcm
                rw [decide_eq_false hpp, Bool.false_and]
                obtain ⟨wx, hwx⟩ : ∃ wx, wx = (w.alloc (Obj.cells #[.slice a0 n0 cap0, .slice (some ⟨b, off, none⟩) nf cap1] 34)).alloc (Obj.cells #[.int .i64 rx, .int .i64 ry, .int .i64 j1, .int .i64 j2, .int .i64 c1, .int .i64 c2, .int .i64 cm] 69) := ⟨_, rfl⟩
                have hb0 : Below w.heap.size w wx := by rw [hwx]; go_grown
                have q0 : wx.cell? ⟨w.heap.size, 0, none⟩ = some (.slice a0 n0 cap0) := by rw [hwx]; go_simp
                have q1 : wx.cell? ⟨w.heap.size, 1, none⟩ = some (.slice (some ⟨b, off, none⟩) nf cap1) := by rw [hwx]; go_simp
                have p0 : wx.cell? ⟨w.heap.size + 1, 0, none⟩ = some (.int .i64 rx) := by rw [hwx]; go_simp
                have p1 : wx.cell? ⟨w.heap.size + 1, 1, none⟩ = some (.int .i64 ry) := by rw [hwx]; go_simp
                have p2 : wx.cell? ⟨w.heap.size + 1, 2, none⟩ = some (.int .i64 j1) := by rw [hwx]; go_simp
                have p3 : wx.cell? ⟨w.heap.size + 1, 3, none⟩ = some (.int .i64 j2) := by rw [hwx]; go_simp
                have p4 : wx.cell? ⟨w.heap.size + 1, 4, none⟩ = some (.int .i64 c1) := by rw [hwx]; go_simp
                have p5 : wx.cell? ⟨w.heap.size + 1, 5, none⟩ = some (.int .i64 c2) := by rw [hwx]; go_simp
                have p6 : wx.cell? ⟨w.heap.size + 1, 6, none⟩ = some (.int .i64 cm) := by rw [hwx]; go_simp
                have Hwx := Lib.hid hwx
                clear hwx
                replace x0 := cell_next x0 hb0
                replace x1 := cell_next x1 hb0
                replace y0 := cell_next y0 hb0
                replace y1 := cell_next y1 hb0
                replace u1 := cell_next u1 hb0
                replace u2 := cell_next u2 hb0
                replace v1 := cell_next v1 hb0
                replace v2 := cell_next v2 hb0
                go_enter Tryd.func76, Tryd.ntmps76
                go_wp2_with fail
                rw [← Hwx.out]
                clear Hwx
                refine (H1.out _ hb0).mono ?_
                rintro e w1 ⟨rfl, hb1⟩
                have hbb : Below w.heap.size w w1 := hb0.trans (hb1.mono hb0.size)
                replace x0 := cell_next x0 hb1
                replace x1 := cell_next x1 hb1
                replace y0 := cell_next y0 hb1
                replace y1 := cell_next y1 hb1
                replace u1 := cell_next u1 hb1
                replace u2 := cell_next u2 hb1
                replace v1 := cell_next v1 hb1
                replace v2 := cell_next v2 hb1
                replace q0 := cell_next q0 hb1
                replace q1 := cell_next q1 hb1
                replace p0 := cell_next p0 hb1
                replace p1 := cell_next p1 hb1
                replace p2 := cell_next p2 hb1
                replace p3 := cell_next p3 hb1
                replace p4 := cell_next p4 hb1
                replace p5 := cell_next p5 hb1
                replace p6 := cell_next p6 hb1
                clear hb0 hb1 H1
                have L0 := World.block_lt_of_cell? w1 _ q1
                have L1 := World.block_lt_of_cell? w1 _ p0
                have L2 := World.block_lt_of_cell? w1 _ x0
                have L3 := World.block_lt_of_cell? w1 _ x1
                have L4 := World.block_lt_of_cell? w1 _ y0
                have L5 := World.block_lt_of_cell? w1 _ y1
                have L6 := World.block_lt_of_cell? w1 _ u1
                have L7 := World.block_lt_of_cell? w1 _ u2
                have L8 := World.block_lt_of_cell? w1 _ v1
                have L9 := World.block_lt_of_cell? w1 _ v2
                simp only at L0 L1 L2 L3 L4 L5 L6 L7 L8 L9
                go_wp2_with fail
                refine (HI.out _).mono ?_
                rintro e w' ⟨rfl, rfl⟩
                go_wp2_with fail
                refine (HK.out _).mono ?_
                rintro e w' ⟨rfl, rfl⟩
                go_wp2_with fail
                obtain ⟨wy, hwy⟩ : ∃ wy, wy = (w1.alloc (Obj.cells #[.int .i64 rx, .slice (some ⟨d, of1, none⟩) n cv] 102)).alloc (Obj.cells #[.int .i64 ry, .slice (some ⟨f, of2, none⟩) m cv'] 102) := ⟨_, rfl⟩
                rw [← hwy]
                have hb2 : Below w1.heap.size w1 wy := by rw [hwy]; go_grown
                have Ga := grow_cell (w := wy) (p := ⟨w1.heap.size, 0, none⟩) (v := .int .i64 rx) (by rw [hwy]; go_simp)
                have Gb := grow_cell (w := wy) (p := ⟨w1.heap.size, 1, none⟩) (v := .slice (some ⟨d, of1, none⟩) n cv) (by rw [hwy]; go_simp)
                have Gc := grow_cell (w := wy) (p := ⟨w1.heap.size + 1, 0, none⟩) (v := .int .i64 ry) (by rw [hwy]; go_simp)
                have Gd := grow_cell (w := wy) (p := ⟨w1.heap.size + 1, 1, none⟩) (v := .slice (some ⟨f, of2, none⟩) m cv') (by rw [hwy]; go_simp)
                have Gx0 := grow_cell (cell_next x0 hb2)
                have Gx1 := grow_cell (cell_next x1 hb2)
                have Gy0 := grow_cell (cell_next y0 hb2)
                have Gy1 := grow_cell (cell_next y1 hb2)
                have Gu1 := grow_cell (cell_next u1 hb2)
                have Gu2 := grow_cell (cell_next u2 hb2)
                have Gv1 := grow_cell (cell_next v1 hb2)
                have Gv2 := grow_cell (cell_next v2 hb2)
                have Gp0 := grow_cell (cell_next p0 hb2)
                have Gp1 := grow_cell (cell_next p1 hb2)
                have Gp2 := grow_cell (cell_next p2 hb2)
                have Gp3 := grow_cell (cell_next p3 hb2)
                have Gp4 := grow_cell (cell_next p4 hb2)
                have Gp5 := grow_cell (cell_next p5 hb2)
                have Gp6 := grow_cell (cell_next p6 hb2)
                have hbc : Below w.heap.size w wy := hbb.trans (hb2.mono hbb.size)
                clear hwy hb2 x0 x1 y0 y1 u1 u2 v1 v2 p0 p1 p2 p3 p4 p5 p6 L0 L1 L2 L3 L4 L5 L6 L7 L8 L9
                refine wp_region_grow (by kernel_rfl) (by kernel_rfl) ?_
                repeat (go_big_quiet_step (fail))
                refine wpQuiet_nil ?_
                rintro _ ⟨nq, rfl⟩
                go_wp2
                go_ret
                exact ⟨by first | rfl | simp, hbc.trans (nq.below.mono hbc.size)⟩
            · subst hrx
              have hpn : (ry != r2) = true := by simp [hry]
              rw [decide_eq_true rfl, decide_eq_false hry, Bool.true_and, Bool.false_and]
              clear Hcm Hci Hck hry
              clear HX HY
              generalize vx.length = n at *
              generalize vy.length = m at *
              obtain ⟨wx, hwx⟩ : ∃ wx, wx = (w.alloc (Obj.cells #[.slice a0 n0 cap0, .slice (some ⟨b, off, none⟩) nf cap1] 34)).alloc (Obj.cells #[.int .i64 rx, .int .i64 r2, .int .i64 j1, .int .i64 j2, .int .i64 c1, .int .i64 c2, .int .i64 cm] 69) := ⟨_, rfl⟩
              have hb0 : Below w.heap.size w wx := by rw [hwx]; go_grown
              have q0 : wx.cell? ⟨w.heap.size, 0, none⟩ = some (.slice a0 n0 cap0) := by rw [hwx]; go_simp
              have q1 : wx.cell? ⟨w.heap.size, 1, none⟩ = some (.slice (some ⟨b, off, none⟩) nf cap1) := by rw [hwx]; go_simp
              have p0 : wx.cell? ⟨w.heap.size + 1, 0, none⟩ = some (.int .i64 rx) := by rw [hwx]; go_simp
              have p1 : wx.cell? ⟨w.heap.size + 1, 1, none⟩ = some (.int .i64 r2) := by rw [hwx]; go_simp
              have p2 : wx.cell? ⟨w.heap.size + 1, 2, none⟩ = some (.int .i64 j1) := by rw [hwx]; go_simp
              have p3 : wx.cell? ⟨w.heap.size + 1, 3, none⟩ = some (.int .i64 j2) := by rw [hwx]; go_simp
              have p4 : wx.cell? ⟨w.heap.size + 1, 4, none⟩ = some (.int .i64 c1) := by rw [hwx]; go_simp
              have p5 : wx.cell? ⟨w.heap.size + 1, 5, none⟩ = some (.int .i64 c2) := by rw [hwx]; go_simp
              have p6 : wx.cell? ⟨w.heap.size + 1, 6, none⟩ = some (.int .i64 cm) := by rw [hwx]; go_simp
              have Hwx := Lib.hid hwx
              clear hwx
              replace x0 := cell_next x0 hb0
              replace x1 := cell_next x1 hb0
              replace y0 := cell_next y0 hb0
              replace y1 := cell_next y1 hb0
              go_enter Tryd.func76, Tryd.ntmps76
              go_wp2_with fail
              rw [← Hwx.out]
              clear Hwx
              refine (H1.out _ hb0).mono ?_
              rintro e w1 ⟨rfl, hb1⟩
              have hbb : Below w.heap.size w w1 := hb0.trans (hb1.mono hb0.size)
              replace x0 := cell_next x0 hb1
              replace x1 := cell_next x1 hb1
              replace y0 := cell_next y0 hb1
              replace y1 := cell_next y1 hb1
              replace q0 := cell_next q0 hb1
              replace q1 := cell_next q1 hb1
              replace p0 := cell_next p0 hb1
              replace p1 := cell_next p1 hb1
              replace p2 := cell_next p2 hb1
              replace p3 := cell_next p3 hb1
              replace p4 := cell_next p4 hb1
              replace p5 := cell_next p5 hb1
              replace p6 := cell_next p6 hb1
              clear hb0 hb1 H1
              have L0 := World.block_lt_of_cell? w1 _ q1
              have L1 := World.block_lt_of_cell? w1 _ p0
              have L2 := World.block_lt_of_cell? w1 _ x0
              have L3 := World.block_lt_of_cell? w1 _ x1
              have L4 := World.block_lt_of_cell? w1 _ y0
              have L5 := World.block_lt_of_cell? w1 _ y1
              simp only at L0 L1 L2 L3 L4 L5
              go_wp2_with fail
              refine (HI.out _).mono ?_
              rintro e w' ⟨rfl, rfl⟩
              go_wp2_with fail
              refine (HK.out _).mono ?_
              rintro e w' ⟨rfl, rfl⟩
              go_wp2_with fail
              obtain ⟨wy, hwy⟩ : ∃ wy, wy = (w1.alloc (Obj.cells #[.int .i64 rx, .slice av n cv] 102)).alloc (Obj.cells #[.int .i64 ry, .slice av' m cv'] 102) := ⟨_, rfl⟩
              rw [← hwy]
              have hb2 : Below w1.heap.size w1 wy := by rw [hwy]; go_grown
              have Ga := grow_cell (w := wy) (p := ⟨w1.heap.size, 0, none⟩) (v := .int .i64 rx) (by rw [hwy]; go_simp)
              have Gb := grow_cell (w := wy) (p := ⟨w1.heap.size, 1, none⟩) (v := .slice av n cv) (by rw [hwy]; go_simp)
              have Gc := grow_cell (w := wy) (p := ⟨w1.heap.size + 1, 0, none⟩) (v := .int .i64 ry) (by rw [hwy]; go_simp)
              have Gd := grow_cell (w := wy) (p := ⟨w1.heap.size + 1, 1, none⟩) (v := .slice av' m cv') (by rw [hwy]; go_simp)
              have Gx0 := grow_cell (cell_next x0 hb2)
              have Gx1 := grow_cell (cell_next x1 hb2)
              have Gy0 := grow_cell (cell_next y0 hb2)
              have Gy1 := grow_cell (cell_next y1 hb2)
              have Gp0 := grow_cell (cell_next p0 hb2)
              have Gp1 := grow_cell (cell_next p1 hb2)
              have Gp2 := grow_cell (cell_next p2 hb2)
              have Gp3 := grow_cell (cell_next p3 hb2)
              have Gp4 := grow_cell (cell_next p4 hb2)
              have Gp5 := grow_cell (cell_next p5 hb2)
              have Gp6 := grow_cell (cell_next p6 hb2)
              have hbc : Below w.heap.size w wy := hbb.trans (hb2.mono hbb.size)
              clear hwy hb2 x0 x1 y0 y1 p0 p1 p2 p3 p4 p5 p6 L0 L1 L2 L3 L4 L5
              refine wp_region_grow (by kernel_rfl) (by kernel_rfl) ?_
              repeat (go_big_quiet_step (fail))
              refine wpQuiet_nil ?_
              rintro _ ⟨nq, rfl⟩
              go_wp2
              go_ret
              exact ⟨by first | rfl | simp, hbc.trans (nq.below.mono hbc.size)⟩
          · have hpn : (rx != r1) = true := by simp [hrx]
            rw [decide_eq_false hrx, Bool.false_and]
            clear Hcm Hci Hck hrx HX HY
            generalize vx.length = n at *
            generalize vy.length = m at *
            obtain ⟨wx, hwx⟩ : ∃ wx, wx = (w.alloc (Obj.cells #[.slice a0 n0 cap0, .slice (some ⟨b, off, none⟩) nf cap1] 34)).alloc (Obj.cells #[.int .i64 r1, .int .i64 r2, .int .i64 j1, .int .i64 j2, .int .i64 c1, .int .i64 c2, .int .i64 cm] 69) := ⟨_, rfl⟩
            have hb0 : Below w.heap.size w wx := by rw [hwx]; go_grown
            have q0 : wx.cell? ⟨w.heap.size, 0, none⟩ = some (.slice a0 n0 cap0) := by rw [hwx]; go_simp
            have q1 : wx.cell? ⟨w.heap.size, 1, none⟩ = some (.slice (some ⟨b, off, none⟩) nf cap1) := by rw [hwx]; go_simp
            have p0 : wx.cell? ⟨w.heap.size + 1, 0, none⟩ = some (.int .i64 r1) := by rw [hwx]; go_simp
            have p1 : wx.cell? ⟨w.heap.size + 1, 1, none⟩ = some (.int .i64 r2) := by rw [hwx]; go_simp
            have p2 : wx.cell? ⟨w.heap.size + 1, 2, none⟩ = some (.int .i64 j1) := by rw [hwx]; go_simp
            have p3 : wx.cell? ⟨w.heap.size + 1, 3, none⟩ = some (.int .i64 j2) := by rw [hwx]; go_simp
            have p4 : wx.cell? ⟨w.heap.size + 1, 4, none⟩ = some (.int .i64 c1) := by rw [hwx]; go_simp
            have p5 : wx.cell? ⟨w.heap.size + 1, 5, none⟩ = some (.int .i64 c2) := by rw [hwx]; go_simp
            have p6 : wx.cell? ⟨w.heap.size + 1, 6, none⟩ = some (.int .i64 cm) := by rw [hwx]; go_simp
            have Hwx := Lib.hid hwx
            clear hwx
            replace x0 := cell_next x0 hb0
            replace x1 := cell_next x1 hb0
            replace y0 := cell_next y0 hb0
            replace y1 := cell_next y1 hb0
            go_enter Tryd.func76, Tryd.ntmps76
            go_wp2_with fail
            rw [← Hwx.out]
            clear Hwx
            refine (H1.out _ hb0).mono ?_
            rintro e w1 ⟨rfl, hb1⟩
            have hbb : Below w.heap.size w w1 := hb0.trans (hb1.mono hb0.size)
            replace x0 := cell_next x0 hb1
            replace x1 := cell_next x1 hb1
            replace y0 := cell_next y0 hb1
            replace y1 := cell_next y1 hb1
            replace q0 := cell_next q0 hb1
            replace q1 := cell_next q1 hb1
            replace p0 := cell_next p0 hb1
            replace p1 := cell_next p1 hb1
            replace p2 := cell_next p2 hb1
            replace p3 := cell_next p3 hb1
            replace p4 := cell_next p4 hb1
            replace p5 := cell_next p5 hb1
            replace p6 := cell_next p6 hb1
            clear hb0 hb1 H1
            have L0 := World.block_lt_of_cell? w1 _ q1
            have L1 := World.block_lt_of_cell? w1 _ p0
            have L2 := World.block_lt_of_cell? w1 _ x0
            have L3 := World.block_lt_of_cell? w1 _ x1
            have L4 := World.block_lt_of_cell? w1 _ y0
            have L5 := World.block_lt_of_cell? w1 _ y1
            simp only at L0 L1 L2 L3 L4 L5
            go_wp2_with fail
            refine (HI.out _).mono ?_
            rintro e w' ⟨rfl, rfl⟩
            go_wp2_with fail
            refine (HK.out _).mono ?_
            rintro e w' ⟨rfl, rfl⟩
            go_wp2_with fail
            obtain ⟨wy, hwy⟩ : ∃ wy, wy = (w1.alloc (Obj.cells #[.int .i64 rx, .slice av n cv] 102)).alloc (Obj.cells #[.int .i64 ry, .slice av' m cv'] 102) := ⟨_, rfl⟩
            rw [← hwy]
            have hb2 : Below w1.heap.size w1 wy := by rw [hwy]; go_grown
            have Ga := grow_cell (w := wy) (p := ⟨w1.heap.size, 0, none⟩) (v := .int .i64 rx) (by rw [hwy]; go_simp)
            have Gb := grow_cell (w := wy) (p := ⟨w1.heap.size, 1, none⟩) (v := .slice av n cv) (by rw [hwy]; go_simp)
            have Gc := grow_cell (w := wy) (p := ⟨w1.heap.size + 1, 0, none⟩) (v := .int .i64 ry) (by rw [hwy]; go_simp)
            have Gd := grow_cell (w := wy) (p := ⟨w1.heap.size + 1, 1, none⟩) (v := .slice av' m cv') (by rw [hwy]; go_simp)
            have Gx0 := grow_cell (cell_next x0 hb2)
            have Gx1 := grow_cell (cell_next x1 hb2)
            have Gy0 := grow_cell (cell_next y0 hb2)
            have Gy1 := grow_cell (cell_next y1 hb2)
            have Gp0 := grow_cell (cell_next p0 hb2)
            have Gp1 := grow_cell (cell_next p1 hb2)
            have Gp2 := grow_cell (cell_next p2 hb2)
            have Gp3 := grow_cell (cell_next p3 hb2)
            have Gp4 := grow_cell (cell_next p4 hb2)
            have Gp5 := grow_cell (cell_next p5 hb2)
            have Gp6 := grow_cell (cell_next p6 hb2)
            have hbc : Below w.heap.size w wy := hbb.trans (hb2.mono hbb.size)
            clear hwy hb2 x0 x1 y0 y1 p0 p1 p2 p3 p4 p5 p6 L0 L1 L2 L3 L4 L5
            refine wp_region_grow (by kernel_rfl) (by kernel_rfl) ?_
            repeat (go_big_quiet_step (fail))
            refine wpQuiet_nil ?_
            rintro _ ⟨nq, rfl⟩
            go_wp2
            go_ret
            exact ⟨by first | rfl | simp, hbc.trans (nq.below.mono hbc.size)⟩
end Go.Proofs.YtgipcnofonejcaaDoor
end

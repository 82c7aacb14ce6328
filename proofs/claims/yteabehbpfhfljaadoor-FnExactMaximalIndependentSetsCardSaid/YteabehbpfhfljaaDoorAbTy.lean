/- What the reckoning asks of the types. Written by gen/abty.py. -/
import Derived.Test.YteabehbpfhfljaaDoorAbTwo
import Derived.Test.YteabehbpfhfljaaDoorProg
open Go Go.Proofs Go.RowKit
namespace Go.Proofs.YteabehbpfhfljaaDoor.Ab
set_option maxRecDepth 100000

theorem ty_kind_int : kindOf Tryd.prog 3 = some none := by kernel_rfl
theorem ty_size_int : sizeIn Tryd.prog 3 = some 1 := by kernel_rfl
theorem ty_zero_int : zeroCells? Tryd.prog 3 = some [.d (.v (.int .i64 0))] := by kernel_rfl
theorem ty_kind_bool : kindOf Tryd.prog 4 = some none := by kernel_rfl
theorem ty_size_bool : sizeIn Tryd.prog 4 = some 1 := by kernel_rfl
theorem ty_zero_bool : zeroCells? Tryd.prog 4 = some [.d (.v (.bool false))] := by kernel_rfl
theorem ty_kind_string : kindOf Tryd.prog 9 = some none := by kernel_rfl
theorem ty_size_string : sizeIn Tryd.prog 9 = some 1 := by kernel_rfl
theorem ty_zero_string : zeroCells? Tryd.prog 9 = some [.d (.v (.string ⟨#[]⟩))] := by kernel_rfl
theorem ty_kind_bitSet : kindOf Tryd.prog 82 = some none := by kernel_rfl
theorem ty_size_bitSet : sizeIn Tryd.prog 82 = some 1 := by kernel_rfl
theorem ty_zero_bitSet : zeroCells? Tryd.prog 82 = some [.d (.v (.int .u64 0))] := by kernel_rfl
theorem ty_kind_uint8 : kindOf Tryd.prog 5 = some none := by kernel_rfl
theorem ty_size_uint8 : sizeIn Tryd.prog 5 = some 1 := by kernel_rfl
theorem ty_zero_uint8 : zeroCells? Tryd.prog 5 = some [.d (.v (.int .u8 0))] := by kernel_rfl
theorem ty_kind_Lint : kindOf Tryd.prog 26 = some none := by kernel_rfl
theorem ty_size_Lint : sizeIn Tryd.prog 26 = some 1 := by kernel_rfl
theorem ty_zero_Lint : zeroCells? Tryd.prog 26 = some [.d (.v (.slice none 0 0))] := by kernel_rfl
theorem ty_und_Lint : Tryd.prog.underlying 26 = some (.slice 3) := by kernel_rfl
theorem ty_el_Lint : elOf Tryd.prog 26 = some (3, 1, 8) := by kernel_rfl
theorem ty_kind_LLint : kindOf Tryd.prog 42 = some none := by kernel_rfl
theorem ty_size_LLint : sizeIn Tryd.prog 42 = some 1 := by kernel_rfl
theorem ty_zero_LLint : zeroCells? Tryd.prog 42 = some [.d (.v (.slice none 0 0))] := by kernel_rfl
theorem ty_und_LLint : Tryd.prog.underlying 42 = some (.slice 26) := by kernel_rfl
theorem ty_el_LLint : elOf Tryd.prog 42 = some (26, 1, 24) := by kernel_rfl
theorem ty_kind_Lstring : kindOf Tryd.prog 110 = some none := by kernel_rfl
theorem ty_size_Lstring : sizeIn Tryd.prog 110 = some 1 := by kernel_rfl
theorem ty_zero_Lstring : zeroCells? Tryd.prog 110 = some [.d (.v (.slice none 0 0))] := by kernel_rfl
theorem ty_und_Lstring : Tryd.prog.underlying 110 = some (.slice 9) := by kernel_rfl
theorem ty_el_Lstring : elOf Tryd.prog 110 = some (9, 1, 16) := by kernel_rfl
theorem ty_kind_Luint8 : kindOf Tryd.prog 119 = some none := by kernel_rfl
theorem ty_size_Luint8 : sizeIn Tryd.prog 119 = some 1 := by kernel_rfl
theorem ty_zero_Luint8 : zeroCells? Tryd.prog 119 = some [.d (.v (.slice none 0 0))] := by kernel_rfl
theorem ty_und_Luint8 : Tryd.prog.underlying 119 = some (.slice 5) := by kernel_rfl
theorem ty_el_Luint8 : elOf Tryd.prog 119 = some (5, 1, 1) := by kernel_rfl
theorem ty_kind_LRelation : kindOf Tryd.prog 29 = some none := by kernel_rfl
theorem ty_size_LRelation : sizeIn Tryd.prog 29 = some 1 := by kernel_rfl
theorem ty_zero_LRelation : zeroCells? Tryd.prog 29 = some [.d (.v (.slice none 0 0))] := by kernel_rfl
theorem ty_und_LRelation : Tryd.prog.underlying 29 = some (.slice 68) := by kernel_rfl
theorem ty_el_LRelation : elOf Tryd.prog 29 = some (68, 3, 32) := by kernel_rfl
theorem ty_kind_LFact : kindOf Tryd.prog 30 = some none := by kernel_rfl
theorem ty_size_LFact : sizeIn Tryd.prog 30 = some 1 := by kernel_rfl
theorem ty_zero_LFact : zeroCells? Tryd.prog 30 = some [.d (.v (.slice none 0 0))] := by kernel_rfl
theorem ty_und_LFact : Tryd.prog.underlying 30 = some (.slice 58) := by kernel_rfl
theorem ty_el_LFact : elOf Tryd.prog 30 = some (58, 2, 32) := by kernel_rfl
theorem ty_kind_LConflictEdge : kindOf Tryd.prog 44 = some none := by kernel_rfl
theorem ty_size_LConflictEdge : sizeIn Tryd.prog 44 = some 1 := by kernel_rfl
theorem ty_zero_LConflictEdge : zeroCells? Tryd.prog 44 = some [.d (.v (.slice none 0 0))] := by kernel_rfl
theorem ty_und_LConflictEdge : Tryd.prog.underlying 44 = some (.slice 74) := by kernel_rfl
theorem ty_el_LConflictEdge : elOf Tryd.prog 44 = some (74, 2, 16) := by kernel_rfl
theorem ty_kind_LbitSet : kindOf Tryd.prog 77 = some none := by kernel_rfl
theorem ty_size_LbitSet : sizeIn Tryd.prog 77 = some 1 := by kernel_rfl
theorem ty_zero_LbitSet : zeroCells? Tryd.prog 77 = some [.d (.v (.slice none 0 0))] := by kernel_rfl
theorem ty_und_LbitSet : Tryd.prog.underlying 77 = some (.slice 82) := by kernel_rfl
theorem ty_el_LbitSet : elOf Tryd.prog 77 = some (82, 1, 8) := by kernel_rfl
theorem ty_kind_conflictGraph : kindOf Tryd.prog 78 = some none := by kernel_rfl
theorem ty_size_conflictGraph : sizeIn Tryd.prog 78 = some 1 := by kernel_rfl
theorem ty_zero_conflictGraph : zeroCells? Tryd.prog 78 = some [.d (.v (.slice none 0 0))] := by kernel_rfl
theorem ty_und_conflictGraph : Tryd.prog.underlying 78 = some (.slice 82) := by kernel_rfl
theorem ty_el_conflictGraph : elOf Tryd.prog 78 = some (82, 1, 8) := by kernel_rfl
theorem ty_kind_Relation : kindOf Tryd.prog 68 = some (some 3) := by kernel_rfl
theorem ty_size_Relation : sizeIn Tryd.prog 68 = some 3 := by kernel_rfl
theorem ty_zero_Relation : zeroCells? Tryd.prog 68 = some [.d (.v (.string ⟨#[]⟩)), .d (.v (.int .i64 0)), .d (.v (.int .i64 0))] := by kernel_rfl
theorem ty_off_Relation_0 : fieldOff Tryd.prog 68 0 = some 0 := by kernel_rfl
theorem ty_off_Relation_1 : fieldOff Tryd.prog 68 1 = some 1 := by kernel_rfl
theorem ty_off_Relation_2 : fieldOff Tryd.prog 68 2 = some 2 := by kernel_rfl
theorem ty_pl_Relation : structPl Tryd.prog 68 = some [(0, 1), (1, 1), (2, 1)] := by kernel_rfl
theorem ty_kind_Fact : kindOf Tryd.prog 58 = some (some 2) := by kernel_rfl
theorem ty_size_Fact : sizeIn Tryd.prog 58 = some 2 := by kernel_rfl
theorem ty_zero_Fact : zeroCells? Tryd.prog 58 = some [.d (.v (.int .i64 0)), .d (.v (.slice none 0 0))] := by kernel_rfl
theorem ty_off_Fact_0 : fieldOff Tryd.prog 58 0 = some 0 := by kernel_rfl
theorem ty_off_Fact_1 : fieldOff Tryd.prog 58 1 = some 1 := by kernel_rfl
theorem ty_pl_Fact : structPl Tryd.prog 58 = some [(0, 1), (1, 1)] := by kernel_rfl
theorem ty_kind_Database : kindOf Tryd.prog 32 = some (some 2) := by kernel_rfl
theorem ty_size_Database : sizeIn Tryd.prog 32 = some 2 := by kernel_rfl
theorem ty_zero_Database : zeroCells? Tryd.prog 32 = some [.d (.v (.slice none 0 0)), .d (.v (.slice none 0 0))] := by kernel_rfl
theorem ty_off_Database_0 : fieldOff Tryd.prog 32 0 = some 0 := by kernel_rfl
theorem ty_off_Database_1 : fieldOff Tryd.prog 32 1 = some 1 := by kernel_rfl
theorem ty_pl_Database : structPl Tryd.prog 32 = some [(0, 1), (1, 1)] := by kernel_rfl
theorem ty_kind_ConflictEdge : kindOf Tryd.prog 74 = some (some 2) := by kernel_rfl
theorem ty_size_ConflictEdge : sizeIn Tryd.prog 74 = some 2 := by kernel_rfl
theorem ty_zero_ConflictEdge : zeroCells? Tryd.prog 74 = some [.d (.v (.int .i64 0)), .d (.v (.int .i64 0))] := by kernel_rfl
theorem ty_off_ConflictEdge_0 : fieldOff Tryd.prog 74 0 = some 0 := by kernel_rfl
theorem ty_off_ConflictEdge_1 : fieldOff Tryd.prog 74 1 = some 1 := by kernel_rfl
theorem ty_pl_ConflictEdge : structPl Tryd.prog 74 = some [(0, 1), (1, 1)] := by kernel_rfl
theorem ty_und_string : Tryd.prog.underlying 9 = some (.string) := by kernel_rfl
theorem ty_und_int : Tryd.prog.underlying 3 = some (.int .i64) := by kernel_rfl
theorem ty_und_uint8 : Tryd.prog.underlying 5 = some (.int .u8) := by kernel_rfl
theorem ty_und_int32 : Tryd.prog.underlying 21 = some (.int .i32) := by kernel_rfl
theorem ty_mix : Tryd.prog.follows .mixedOrders = true := by kernel_rfl
theorem tyL : (((((((kindOf Tryd.prog 3 = some none) ∧ (sizeIn Tryd.prog 3 = some 1)) ∧ ((zeroCells? Tryd.prog 3 = some [.d (.v (.int .i64 0))]) ∧ ((kindOf Tryd.prog 4 = some none) ∧ (sizeIn Tryd.prog 4 = some 1)))) ∧ (((zeroCells? Tryd.prog 4 = some [.d (.v (.bool false))]) ∧ ((kindOf Tryd.prog 9 = some none) ∧ (sizeIn Tryd.prog 9 = some 1))) ∧ ((zeroCells? Tryd.prog 9 = some [.d (.v (.string ⟨#[]⟩))]) ∧ ((kindOf Tryd.prog 82 = some none) ∧ (sizeIn Tryd.prog 82 = some 1))))) ∧ ((((zeroCells? Tryd.prog 82 = some [.d (.v (.int .u64 0))]) ∧ (kindOf Tryd.prog 5 = some none)) ∧ ((sizeIn Tryd.prog 5 = some 1) ∧ ((zeroCells? Tryd.prog 5 = some [.d (.v (.int .u8 0))]) ∧ (kindOf Tryd.prog 26 = some none)))) ∧ (((sizeIn Tryd.prog 26 = some 1) ∧ ((zeroCells? Tryd.prog 26 = some [.d (.v (.slice none 0 0))]) ∧ (Tryd.prog.underlying 26 = some (.slice 3)))) ∧ ((elOf Tryd.prog 26 = some (3, 1, 8)) ∧ ((kindOf Tryd.prog 42 = some none) ∧ (sizeIn Tryd.prog 42 = some 1)))))) ∧ (((((zeroCells? Tryd.prog 42 = some [.d (.v (.slice none 0 0))]) ∧ (Tryd.prog.underlying 42 = some (.slice 26))) ∧ ((elOf Tryd.prog 42 = some (26, 1, 24)) ∧ ((kindOf Tryd.prog 110 = some none) ∧ (sizeIn Tryd.prog 110 = some 1)))) ∧ (((zeroCells? Tryd.prog 110 = some [.d (.v (.slice none 0 0))]) ∧ ((Tryd.prog.underlying 110 = some (.slice 9)) ∧ (elOf Tryd.prog 110 = some (9, 1, 16)))) ∧ ((kindOf Tryd.prog 119 = some none) ∧ ((sizeIn Tryd.prog 119 = some 1) ∧ (zeroCells? Tryd.prog 119 = some [.d (.v (.slice none 0 0))]))))) ∧ ((((Tryd.prog.underlying 119 = some (.slice 5)) ∧ (elOf Tryd.prog 119 = some (5, 1, 1))) ∧ ((kindOf Tryd.prog 29 = some none) ∧ ((sizeIn Tryd.prog 29 = some 1) ∧ (zeroCells? Tryd.prog 29 = some [.d (.v (.slice none 0 0))])))) ∧ (((Tryd.prog.underlying 29 = some (.slice 68)) ∧ ((elOf Tryd.prog 29 = some (68, 3, 32)) ∧ (kindOf Tryd.prog 30 = some none))) ∧ ((sizeIn Tryd.prog 30 = some 1) ∧ ((zeroCells? Tryd.prog 30 = some [.d (.v (.slice none 0 0))]) ∧ (Tryd.prog.underlying 30 = some (.slice 58)))))))) ∧ ((((((elOf Tryd.prog 30 = some (58, 2, 32)) ∧ (kindOf Tryd.prog 44 = some none)) ∧ ((sizeIn Tryd.prog 44 = some 1) ∧ ((zeroCells? Tryd.prog 44 = some [.d (.v (.slice none 0 0))]) ∧ (Tryd.prog.underlying 44 = some (.slice 74))))) ∧ (((elOf Tryd.prog 44 = some (74, 2, 16)) ∧ ((kindOf Tryd.prog 77 = some none) ∧ (sizeIn Tryd.prog 77 = some 1))) ∧ ((zeroCells? Tryd.prog 77 = some [.d (.v (.slice none 0 0))]) ∧ ((Tryd.prog.underlying 77 = some (.slice 82)) ∧ (elOf Tryd.prog 77 = some (82, 1, 8)))))) ∧ ((((kindOf Tryd.prog 78 = some none) ∧ (sizeIn Tryd.prog 78 = some 1)) ∧ ((zeroCells? Tryd.prog 78 = some [.d (.v (.slice none 0 0))]) ∧ ((Tryd.prog.underlying 78 = some (.slice 82)) ∧ (elOf Tryd.prog 78 = some (82, 1, 8))))) ∧ (((kindOf Tryd.prog 68 = some (some 3)) ∧ ((sizeIn Tryd.prog 68 = some 3) ∧ (zeroCells? Tryd.prog 68 = some [.d (.v (.string ⟨#[]⟩)), .d (.v (.int .i64 0)), .d (.v (.int .i64 0))]))) ∧ ((fieldOff Tryd.prog 68 0 = some 0) ∧ ((fieldOff Tryd.prog 68 1 = some 1) ∧ (fieldOff Tryd.prog 68 2 = some 2)))))) ∧ (((((structPl Tryd.prog 68 = some [(0, 1), (1, 1), (2, 1)]) ∧ (kindOf Tryd.prog 58 = some (some 2))) ∧ ((sizeIn Tryd.prog 58 = some 2) ∧ ((zeroCells? Tryd.prog 58 = some [.d (.v (.int .i64 0)), .d (.v (.slice none 0 0))]) ∧ (fieldOff Tryd.prog 58 0 = some 0)))) ∧ (((fieldOff Tryd.prog 58 1 = some 1) ∧ ((structPl Tryd.prog 58 = some [(0, 1), (1, 1)]) ∧ (kindOf Tryd.prog 32 = some (some 2)))) ∧ ((sizeIn Tryd.prog 32 = some 2) ∧ ((zeroCells? Tryd.prog 32 = some [.d (.v (.slice none 0 0)), .d (.v (.slice none 0 0))]) ∧ (fieldOff Tryd.prog 32 0 = some 0))))) ∧ ((((fieldOff Tryd.prog 32 1 = some 1) ∧ ((structPl Tryd.prog 32 = some [(0, 1), (1, 1)]) ∧ (kindOf Tryd.prog 74 = some (some 2)))) ∧ ((sizeIn Tryd.prog 74 = some 2) ∧ ((zeroCells? Tryd.prog 74 = some [.d (.v (.int .i64 0)), .d (.v (.int .i64 0))]) ∧ (fieldOff Tryd.prog 74 0 = some 0)))) ∧ (((fieldOff Tryd.prog 74 1 = some 1) ∧ ((structPl Tryd.prog 74 = some [(0, 1), (1, 1)]) ∧ (Tryd.prog.underlying 9 = some (.string)))) ∧ ((Tryd.prog.underlying 3 = some (.int .i64)) ∧ ((Tryd.prog.underlying 5 = some (.int .u8)) ∧ (Tryd.prog.underlying 21 = some (.int .i32))))))))) :=
  ⟨⟨⟨⟨⟨⟨ty_kind_int, ty_size_int⟩, ⟨ty_zero_int, ⟨ty_kind_bool, ty_size_bool⟩⟩⟩, ⟨⟨ty_zero_bool, ⟨ty_kind_string, ty_size_string⟩⟩, ⟨ty_zero_string, ⟨ty_kind_bitSet, ty_size_bitSet⟩⟩⟩⟩, ⟨⟨⟨ty_zero_bitSet, ty_kind_uint8⟩, ⟨ty_size_uint8, ⟨ty_zero_uint8, ty_kind_Lint⟩⟩⟩, ⟨⟨ty_size_Lint, ⟨ty_zero_Lint, ty_und_Lint⟩⟩, ⟨ty_el_Lint, ⟨ty_kind_LLint, ty_size_LLint⟩⟩⟩⟩⟩, ⟨⟨⟨⟨ty_zero_LLint, ty_und_LLint⟩, ⟨ty_el_LLint, ⟨ty_kind_Lstring, ty_size_Lstring⟩⟩⟩, ⟨⟨ty_zero_Lstring, ⟨ty_und_Lstring, ty_el_Lstring⟩⟩, ⟨ty_kind_Luint8, ⟨ty_size_Luint8, ty_zero_Luint8⟩⟩⟩⟩, ⟨⟨⟨ty_und_Luint8, ty_el_Luint8⟩, ⟨ty_kind_LRelation, ⟨ty_size_LRelation, ty_zero_LRelation⟩⟩⟩, ⟨⟨ty_und_LRelation, ⟨ty_el_LRelation, ty_kind_LFact⟩⟩, ⟨ty_size_LFact, ⟨ty_zero_LFact, ty_und_LFact⟩⟩⟩⟩⟩⟩, ⟨⟨⟨⟨⟨ty_el_LFact, ty_kind_LConflictEdge⟩, ⟨ty_size_LConflictEdge, ⟨ty_zero_LConflictEdge, ty_und_LConflictEdge⟩⟩⟩, ⟨⟨ty_el_LConflictEdge, ⟨ty_kind_LbitSet, ty_size_LbitSet⟩⟩, ⟨ty_zero_LbitSet, ⟨ty_und_LbitSet, ty_el_LbitSet⟩⟩⟩⟩, ⟨⟨⟨ty_kind_conflictGraph, ty_size_conflictGraph⟩, ⟨ty_zero_conflictGraph, ⟨ty_und_conflictGraph, ty_el_conflictGraph⟩⟩⟩, ⟨⟨ty_kind_Relation, ⟨ty_size_Relation, ty_zero_Relation⟩⟩, ⟨ty_off_Relation_0, ⟨ty_off_Relation_1, ty_off_Relation_2⟩⟩⟩⟩⟩, ⟨⟨⟨⟨ty_pl_Relation, ty_kind_Fact⟩, ⟨ty_size_Fact, ⟨ty_zero_Fact, ty_off_Fact_0⟩⟩⟩, ⟨⟨ty_off_Fact_1, ⟨ty_pl_Fact, ty_kind_Database⟩⟩, ⟨ty_size_Database, ⟨ty_zero_Database, ty_off_Database_0⟩⟩⟩⟩, ⟨⟨⟨ty_off_Database_1, ⟨ty_pl_Database, ty_kind_ConflictEdge⟩⟩, ⟨ty_size_ConflictEdge, ⟨ty_zero_ConflictEdge, ty_off_ConflictEdge_0⟩⟩⟩, ⟨⟨ty_off_ConflictEdge_1, ⟨ty_pl_ConflictEdge, ty_und_string⟩⟩, ⟨ty_und_int, ⟨ty_und_uint8, ty_und_int32⟩⟩⟩⟩⟩⟩⟩
end Go.Proofs.YteabehbpfhfljaaDoor.Ab


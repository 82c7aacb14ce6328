/- What the reckoning asks of the types. Written by gen/abty.py. -/
import Derived.Test.YtknnnebjjjldpabAbTwo
import Derived.Test.YtknnnebjjjldpabProg
open Go Go.Proofs Go.RowKit
namespace Go.Proofs.Ytknnnebjjjldpab.Ab
set_option maxRecDepth 100000

theorem ty_kind_int : kindOf Try.prog 3 = some none := by kernel_rfl
theorem ty_size_int : sizeIn Try.prog 3 = some 1 := by kernel_rfl
theorem ty_zero_int : zeroCells? Try.prog 3 = some [.d (.v (.int .i64 0))] := by kernel_rfl
theorem ty_kind_bool : kindOf Try.prog 4 = some none := by kernel_rfl
theorem ty_size_bool : sizeIn Try.prog 4 = some 1 := by kernel_rfl
theorem ty_zero_bool : zeroCells? Try.prog 4 = some [.d (.v (.bool false))] := by kernel_rfl
theorem ty_kind_string : kindOf Try.prog 9 = some none := by kernel_rfl
theorem ty_size_string : sizeIn Try.prog 9 = some 1 := by kernel_rfl
theorem ty_zero_string : zeroCells? Try.prog 9 = some [.d (.v (.string ⟨#[]⟩))] := by kernel_rfl
theorem ty_kind_uint8 : kindOf Try.prog 5 = some none := by kernel_rfl
theorem ty_size_uint8 : sizeIn Try.prog 5 = some 1 := by kernel_rfl
theorem ty_zero_uint8 : zeroCells? Try.prog 5 = some [.d (.v (.int .u8 0))] := by kernel_rfl
theorem ty_kind_Lint : kindOf Try.prog 26 = some none := by kernel_rfl
theorem ty_size_Lint : sizeIn Try.prog 26 = some 1 := by kernel_rfl
theorem ty_zero_Lint : zeroCells? Try.prog 26 = some [.d (.v (.slice none 0 0))] := by kernel_rfl
theorem ty_und_Lint : Try.prog.underlying 26 = some (.slice 3) := by kernel_rfl
theorem ty_el_Lint : elOf Try.prog 26 = some (3, 1, 8) := by kernel_rfl
theorem ty_kind_LLint : kindOf Try.prog 83 = some none := by kernel_rfl
theorem ty_size_LLint : sizeIn Try.prog 83 = some 1 := by kernel_rfl
theorem ty_zero_LLint : zeroCells? Try.prog 83 = some [.d (.v (.slice none 0 0))] := by kernel_rfl
theorem ty_und_LLint : Try.prog.underlying 83 = some (.slice 26) := by kernel_rfl
theorem ty_el_LLint : elOf Try.prog 83 = some (26, 1, 24) := by kernel_rfl
theorem ty_kind_Luint8 : kindOf Try.prog 134 = some none := by kernel_rfl
theorem ty_size_Luint8 : sizeIn Try.prog 134 = some 1 := by kernel_rfl
theorem ty_zero_Luint8 : zeroCells? Try.prog 134 = some [.d (.v (.slice none 0 0))] := by kernel_rfl
theorem ty_und_Luint8 : Try.prog.underlying 134 = some (.slice 5) := by kernel_rfl
theorem ty_el_Luint8 : elOf Try.prog 134 = some (5, 1, 1) := by kernel_rfl
theorem ty_kind_LRelation : kindOf Try.prog 28 = some none := by kernel_rfl
theorem ty_size_LRelation : sizeIn Try.prog 28 = some 1 := by kernel_rfl
theorem ty_zero_LRelation : zeroCells? Try.prog 28 = some [.d (.v (.slice none 0 0))] := by kernel_rfl
theorem ty_und_LRelation : Try.prog.underlying 28 = some (.slice 113) := by kernel_rfl
theorem ty_el_LRelation : elOf Try.prog 28 = some (113, 3, 32) := by kernel_rfl
theorem ty_kind_LFact : kindOf Try.prog 29 = some none := by kernel_rfl
theorem ty_size_LFact : sizeIn Try.prog 29 = some 1 := by kernel_rfl
theorem ty_zero_LFact : zeroCells? Try.prog 29 = some [.d (.v (.slice none 0 0))] := by kernel_rfl
theorem ty_und_LFact : Try.prog.underlying 29 = some (.slice 66) := by kernel_rfl
theorem ty_el_LFact : elOf Try.prog 29 = some (66, 2, 32) := by kernel_rfl
theorem ty_kind_LConflictEdge : kindOf Try.prog 48 = some none := by kernel_rfl
theorem ty_size_LConflictEdge : sizeIn Try.prog 48 = some 1 := by kernel_rfl
theorem ty_zero_LConflictEdge : zeroCells? Try.prog 48 = some [.d (.v (.slice none 0 0))] := by kernel_rfl
theorem ty_und_LConflictEdge : Try.prog.underlying 48 = some (.slice 91) := by kernel_rfl
theorem ty_el_LConflictEdge : elOf Try.prog 48 = some (91, 2, 16) := by kernel_rfl
theorem ty_kind_LDenialConstraint : kindOf Try.prog 56 = some none := by kernel_rfl
theorem ty_size_LDenialConstraint : sizeIn Try.prog 56 = some 1 := by kernel_rfl
theorem ty_zero_LDenialConstraint : zeroCells? Try.prog 56 = some [.d (.v (.slice none 0 0))] := by kernel_rfl
theorem ty_und_LDenialConstraint : Try.prog.underlying 56 = some (.slice 96) := by kernel_rfl
theorem ty_el_LDenialConstraint : elOf Try.prog 56 = some (96, 7, 56) := by kernel_rfl
theorem ty_kind_Relation : kindOf Try.prog 113 = some (some 3) := by kernel_rfl
theorem ty_size_Relation : sizeIn Try.prog 113 = some 3 := by kernel_rfl
theorem ty_zero_Relation : zeroCells? Try.prog 113 = some [.d (.v (.string ⟨#[]⟩)), .d (.v (.int .i64 0)), .d (.v (.int .i64 0))] := by kernel_rfl
theorem ty_off_Relation_0 : fieldOff Try.prog 113 0 = some 0 := by kernel_rfl
theorem ty_off_Relation_1 : fieldOff Try.prog 113 1 = some 1 := by kernel_rfl
theorem ty_off_Relation_2 : fieldOff Try.prog 113 2 = some 2 := by kernel_rfl
theorem ty_pl_Relation : structPl Try.prog 113 = some [(0, 1), (1, 1), (2, 1)] := by kernel_rfl
theorem ty_kind_Fact : kindOf Try.prog 66 = some (some 2) := by kernel_rfl
theorem ty_size_Fact : sizeIn Try.prog 66 = some 2 := by kernel_rfl
theorem ty_zero_Fact : zeroCells? Try.prog 66 = some [.d (.v (.int .i64 0)), .d (.v (.slice none 0 0))] := by kernel_rfl
theorem ty_off_Fact_0 : fieldOff Try.prog 66 0 = some 0 := by kernel_rfl
theorem ty_off_Fact_1 : fieldOff Try.prog 66 1 = some 1 := by kernel_rfl
theorem ty_pl_Fact : structPl Try.prog 66 = some [(0, 1), (1, 1)] := by kernel_rfl
theorem ty_kind_Database : kindOf Try.prog 31 = some (some 2) := by kernel_rfl
theorem ty_size_Database : sizeIn Try.prog 31 = some 2 := by kernel_rfl
theorem ty_zero_Database : zeroCells? Try.prog 31 = some [.d (.v (.slice none 0 0)), .d (.v (.slice none 0 0))] := by kernel_rfl
theorem ty_off_Database_0 : fieldOff Try.prog 31 0 = some 0 := by kernel_rfl
theorem ty_off_Database_1 : fieldOff Try.prog 31 1 = some 1 := by kernel_rfl
theorem ty_pl_Database : structPl Try.prog 31 = some [(0, 1), (1, 1)] := by kernel_rfl
theorem ty_kind_ConflictEdge : kindOf Try.prog 91 = some (some 2) := by kernel_rfl
theorem ty_size_ConflictEdge : sizeIn Try.prog 91 = some 2 := by kernel_rfl
theorem ty_zero_ConflictEdge : zeroCells? Try.prog 91 = some [.d (.v (.int .i64 0)), .d (.v (.int .i64 0))] := by kernel_rfl
theorem ty_off_ConflictEdge_0 : fieldOff Try.prog 91 0 = some 0 := by kernel_rfl
theorem ty_off_ConflictEdge_1 : fieldOff Try.prog 91 1 = some 1 := by kernel_rfl
theorem ty_pl_ConflictEdge : structPl Try.prog 91 = some [(0, 1), (1, 1)] := by kernel_rfl
theorem ty_kind_DenialConstraint : kindOf Try.prog 96 = some (some 7) := by kernel_rfl
theorem ty_size_DenialConstraint : sizeIn Try.prog 96 = some 7 := by kernel_rfl
theorem ty_zero_DenialConstraint : zeroCells? Try.prog 96 = some [.d (.v (.int .i64 0)), .d (.v (.int .i64 0)), .d (.v (.int .i64 0)), .d (.v (.int .i64 0)), .d (.v (.int .i64 0)), .d (.v (.int .i64 0)), .d (.v (.int .i64 0))] := by kernel_rfl
theorem ty_off_DenialConstraint_0 : fieldOff Try.prog 96 0 = some 0 := by kernel_rfl
theorem ty_off_DenialConstraint_1 : fieldOff Try.prog 96 1 = some 1 := by kernel_rfl
theorem ty_off_DenialConstraint_2 : fieldOff Try.prog 96 2 = some 2 := by kernel_rfl
theorem ty_off_DenialConstraint_3 : fieldOff Try.prog 96 3 = some 3 := by kernel_rfl
theorem ty_off_DenialConstraint_4 : fieldOff Try.prog 96 4 = some 4 := by kernel_rfl
theorem ty_off_DenialConstraint_5 : fieldOff Try.prog 96 5 = some 5 := by kernel_rfl
theorem ty_off_DenialConstraint_6 : fieldOff Try.prog 96 6 = some 6 := by kernel_rfl
theorem ty_pl_DenialConstraint : structPl Try.prog 96 = some [(0, 1), (1, 1), (2, 1), (3, 1), (4, 1), (5, 1), (6, 1)] := by kernel_rfl
theorem ty_mix : Try.prog.follows .mixedOrders = true := by kernel_rfl
theorem tyL : (kindOf Try.prog 3 = some none) ∧ (sizeIn Try.prog 3 = some 1) ∧ (zeroCells? Try.prog 3 = some [.d (.v (.int .i64 0))]) ∧ (kindOf Try.prog 4 = some none) ∧ (sizeIn Try.prog 4 = some 1) ∧ (zeroCells? Try.prog 4 = some [.d (.v (.bool false))]) ∧ (kindOf Try.prog 9 = some none) ∧ (sizeIn Try.prog 9 = some 1) ∧ (zeroCells? Try.prog 9 = some [.d (.v (.string ⟨#[]⟩))]) ∧ (kindOf Try.prog 5 = some none) ∧ (sizeIn Try.prog 5 = some 1) ∧ (zeroCells? Try.prog 5 = some [.d (.v (.int .u8 0))]) ∧ (kindOf Try.prog 26 = some none) ∧ (sizeIn Try.prog 26 = some 1) ∧ (zeroCells? Try.prog 26 = some [.d (.v (.slice none 0 0))]) ∧ (Try.prog.underlying 26 = some (.slice 3)) ∧ (elOf Try.prog 26 = some (3, 1, 8)) ∧ (kindOf Try.prog 83 = some none) ∧ (sizeIn Try.prog 83 = some 1) ∧ (zeroCells? Try.prog 83 = some [.d (.v (.slice none 0 0))]) ∧ (Try.prog.underlying 83 = some (.slice 26)) ∧ (elOf Try.prog 83 = some (26, 1, 24)) ∧ (kindOf Try.prog 134 = some none) ∧ (sizeIn Try.prog 134 = some 1) ∧ (zeroCells? Try.prog 134 = some [.d (.v (.slice none 0 0))]) ∧ (Try.prog.underlying 134 = some (.slice 5)) ∧ (elOf Try.prog 134 = some (5, 1, 1)) ∧ (kindOf Try.prog 28 = some none) ∧ (sizeIn Try.prog 28 = some 1) ∧ (zeroCells? Try.prog 28 = some [.d (.v (.slice none 0 0))]) ∧ (Try.prog.underlying 28 = some (.slice 113)) ∧ (elOf Try.prog 28 = some (113, 3, 32)) ∧ (kindOf Try.prog 29 = some none) ∧ (sizeIn Try.prog 29 = some 1) ∧ (zeroCells? Try.prog 29 = some [.d (.v (.slice none 0 0))]) ∧ (Try.prog.underlying 29 = some (.slice 66)) ∧ (elOf Try.prog 29 = some (66, 2, 32)) ∧ (kindOf Try.prog 48 = some none) ∧ (sizeIn Try.prog 48 = some 1) ∧ (zeroCells? Try.prog 48 = some [.d (.v (.slice none 0 0))]) ∧ (Try.prog.underlying 48 = some (.slice 91)) ∧ (elOf Try.prog 48 = some (91, 2, 16)) ∧ (kindOf Try.prog 56 = some none) ∧ (sizeIn Try.prog 56 = some 1) ∧ (zeroCells? Try.prog 56 = some [.d (.v (.slice none 0 0))]) ∧ (Try.prog.underlying 56 = some (.slice 96)) ∧ (elOf Try.prog 56 = some (96, 7, 56)) ∧ (kindOf Try.prog 113 = some (some 3)) ∧ (sizeIn Try.prog 113 = some 3) ∧ (zeroCells? Try.prog 113 = some [.d (.v (.string ⟨#[]⟩)), .d (.v (.int .i64 0)), .d (.v (.int .i64 0))]) ∧ (fieldOff Try.prog 113 0 = some 0) ∧ (fieldOff Try.prog 113 1 = some 1) ∧ (fieldOff Try.prog 113 2 = some 2) ∧ (structPl Try.prog 113 = some [(0, 1), (1, 1), (2, 1)]) ∧ (kindOf Try.prog 66 = some (some 2)) ∧ (sizeIn Try.prog 66 = some 2) ∧ (zeroCells? Try.prog 66 = some [.d (.v (.int .i64 0)), .d (.v (.slice none 0 0))]) ∧ (fieldOff Try.prog 66 0 = some 0) ∧ (fieldOff Try.prog 66 1 = some 1) ∧ (structPl Try.prog 66 = some [(0, 1), (1, 1)]) ∧ (kindOf Try.prog 31 = some (some 2)) ∧ (sizeIn Try.prog 31 = some 2) ∧ (zeroCells? Try.prog 31 = some [.d (.v (.slice none 0 0)), .d (.v (.slice none 0 0))]) ∧ (fieldOff Try.prog 31 0 = some 0) ∧ (fieldOff Try.prog 31 1 = some 1) ∧ (structPl Try.prog 31 = some [(0, 1), (1, 1)]) ∧ (kindOf Try.prog 91 = some (some 2)) ∧ (sizeIn Try.prog 91 = some 2) ∧ (zeroCells? Try.prog 91 = some [.d (.v (.int .i64 0)), .d (.v (.int .i64 0))]) ∧ (fieldOff Try.prog 91 0 = some 0) ∧ (fieldOff Try.prog 91 1 = some 1) ∧ (structPl Try.prog 91 = some [(0, 1), (1, 1)]) ∧ (kindOf Try.prog 96 = some (some 7)) ∧ (sizeIn Try.prog 96 = some 7) ∧ (zeroCells? Try.prog 96 = some [.d (.v (.int .i64 0)), .d (.v (.int .i64 0)), .d (.v (.int .i64 0)), .d (.v (.int .i64 0)), .d (.v (.int .i64 0)), .d (.v (.int .i64 0)), .d (.v (.int .i64 0))]) ∧ (fieldOff Try.prog 96 0 = some 0) ∧ (fieldOff Try.prog 96 1 = some 1) ∧ (fieldOff Try.prog 96 2 = some 2) ∧ (fieldOff Try.prog 96 3 = some 3) ∧ (fieldOff Try.prog 96 4 = some 4) ∧ (fieldOff Try.prog 96 5 = some 5) ∧ (fieldOff Try.prog 96 6 = some 6) ∧ (structPl Try.prog 96 = some [(0, 1), (1, 1), (2, 1), (3, 1), (4, 1), (5, 1), (6, 1)]) :=
  ⟨ty_kind_int, ty_size_int, ty_zero_int, ty_kind_bool, ty_size_bool, ty_zero_bool, ty_kind_string, ty_size_string, ty_zero_string, ty_kind_uint8, ty_size_uint8, ty_zero_uint8, ty_kind_Lint, ty_size_Lint, ty_zero_Lint, ty_und_Lint, ty_el_Lint, ty_kind_LLint, ty_size_LLint, ty_zero_LLint, ty_und_LLint, ty_el_LLint, ty_kind_Luint8, ty_size_Luint8, ty_zero_Luint8, ty_und_Luint8, ty_el_Luint8, ty_kind_LRelation, ty_size_LRelation, ty_zero_LRelation, ty_und_LRelation, ty_el_LRelation, ty_kind_LFact, ty_size_LFact, ty_zero_LFact, ty_und_LFact, ty_el_LFact, ty_kind_LConflictEdge, ty_size_LConflictEdge, ty_zero_LConflictEdge, ty_und_LConflictEdge, ty_el_LConflictEdge, ty_kind_LDenialConstraint, ty_size_LDenialConstraint, ty_zero_LDenialConstraint, ty_und_LDenialConstraint, ty_el_LDenialConstraint, ty_kind_Relation, ty_size_Relation, ty_zero_Relation, ty_off_Relation_0, ty_off_Relation_1, ty_off_Relation_2, ty_pl_Relation, ty_kind_Fact, ty_size_Fact, ty_zero_Fact, ty_off_Fact_0, ty_off_Fact_1, ty_pl_Fact, ty_kind_Database, ty_size_Database, ty_zero_Database, ty_off_Database_0, ty_off_Database_1, ty_pl_Database, ty_kind_ConflictEdge, ty_size_ConflictEdge, ty_zero_ConflictEdge, ty_off_ConflictEdge_0, ty_off_ConflictEdge_1, ty_pl_ConflictEdge, ty_kind_DenialConstraint, ty_size_DenialConstraint, ty_zero_DenialConstraint, ty_off_DenialConstraint_0, ty_off_DenialConstraint_1, ty_off_DenialConstraint_2, ty_off_DenialConstraint_3, ty_off_DenialConstraint_4, ty_off_DenialConstraint_5, ty_off_DenialConstraint_6, ty_pl_DenialConstraint⟩
end Go.Proofs.Ytknnnebjjjldpab.Ab


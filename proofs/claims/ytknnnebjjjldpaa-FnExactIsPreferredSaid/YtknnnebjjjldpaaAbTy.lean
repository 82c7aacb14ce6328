/- What the reckoning asks of the types. Written by gen/abty.py. -/
import Derived.Test.YtknnnebjjjldpaaAbTwo
import Derived.Test.YtknnnebjjjldpaaProg
open Go Go.Proofs Go.RowKit
namespace Go.Proofs.Ytknnnebjjjldpaa.Ab
set_option maxRecDepth 100000

theorem ty_kind_int : kindOf Try.prog 3 = some none := by kernel_rfl
theorem ty_size_int : sizeIn Try.prog 3 = some 1 := by kernel_rfl
theorem ty_zero_int : zeroCells? Try.prog 3 = some [.d (.v (.int .i64 0))] := by kernel_rfl
theorem ty_kind_bool : kindOf Try.prog 4 = some none := by kernel_rfl
theorem ty_size_bool : sizeIn Try.prog 4 = some 1 := by kernel_rfl
theorem ty_zero_bool : zeroCells? Try.prog 4 = some [.d (.v (.bool false))] := by kernel_rfl
theorem ty_kind_string : kindOf Try.prog 9 = some none := by kernel_rfl
theorem ty_size_string : sizeIn Try.prog 9 = some 1 := by kernel_rfl
theorem ty_zero_string : zeroCells? Try.prog 9 = some [.d (.v (.string ⟨#[]⟩))] := by kernel_rfl
theorem ty_kind_bitSet : kindOf Try.prog 141 = some none := by kernel_rfl
theorem ty_size_bitSet : sizeIn Try.prog 141 = some 1 := by kernel_rfl
theorem ty_zero_bitSet : zeroCells? Try.prog 141 = some [.d (.v (.int .u64 0))] := by kernel_rfl
theorem ty_kind_uint8 : kindOf Try.prog 5 = some none := by kernel_rfl
theorem ty_size_uint8 : sizeIn Try.prog 5 = some 1 := by kernel_rfl
theorem ty_zero_uint8 : zeroCells? Try.prog 5 = some [.d (.v (.int .u8 0))] := by kernel_rfl
theorem ty_kind_Lint : kindOf Try.prog 23 = some none := by kernel_rfl
theorem ty_size_Lint : sizeIn Try.prog 23 = some 1 := by kernel_rfl
theorem ty_zero_Lint : zeroCells? Try.prog 23 = some [.d (.v (.slice none 0 0))] := by kernel_rfl
theorem ty_und_Lint : Try.prog.underlying 23 = some (.slice 3) := by kernel_rfl
theorem ty_el_Lint : elOf Try.prog 23 = some (3, 1, 8) := by kernel_rfl
theorem ty_kind_LLint : kindOf Try.prog 22 = some none := by kernel_rfl
theorem ty_size_LLint : sizeIn Try.prog 22 = some 1 := by kernel_rfl
theorem ty_zero_LLint : zeroCells? Try.prog 22 = some [.d (.v (.slice none 0 0))] := by kernel_rfl
theorem ty_und_LLint : Try.prog.underlying 22 = some (.slice 23) := by kernel_rfl
theorem ty_el_LLint : elOf Try.prog 22 = some (23, 1, 24) := by kernel_rfl
theorem ty_kind_LRelation : kindOf Try.prog 61 = some none := by kernel_rfl
theorem ty_size_LRelation : sizeIn Try.prog 61 = some 1 := by kernel_rfl
theorem ty_zero_LRelation : zeroCells? Try.prog 61 = some [.d (.v (.slice none 0 0))] := by kernel_rfl
theorem ty_und_LRelation : Try.prog.underlying 61 = some (.slice 127) := by kernel_rfl
theorem ty_el_LRelation : elOf Try.prog 61 = some (127, 3, 32) := by kernel_rfl
theorem ty_kind_LFact : kindOf Try.prog 62 = some none := by kernel_rfl
theorem ty_size_LFact : sizeIn Try.prog 62 = some 1 := by kernel_rfl
theorem ty_zero_LFact : zeroCells? Try.prog 62 = some [.d (.v (.slice none 0 0))] := by kernel_rfl
theorem ty_und_LFact : Try.prog.underlying 62 = some (.slice 124) := by kernel_rfl
theorem ty_el_LFact : elOf Try.prog 62 = some (124, 2, 32) := by kernel_rfl
theorem ty_kind_LConflictEdge : kindOf Try.prog 35 = some none := by kernel_rfl
theorem ty_size_LConflictEdge : sizeIn Try.prog 35 = some 1 := by kernel_rfl
theorem ty_zero_LConflictEdge : zeroCells? Try.prog 35 = some [.d (.v (.slice none 0 0))] := by kernel_rfl
theorem ty_und_LConflictEdge : Try.prog.underlying 35 = some (.slice 78) := by kernel_rfl
theorem ty_el_LConflictEdge : elOf Try.prog 35 = some (78, 2, 16) := by kernel_rfl
theorem ty_kind_LAtom : kindOf Try.prog 39 = some none := by kernel_rfl
theorem ty_size_LAtom : sizeIn Try.prog 39 = some 1 := by kernel_rfl
theorem ty_zero_LAtom : zeroCells? Try.prog 39 = some [.d (.v (.slice none 0 0))] := by kernel_rfl
theorem ty_und_LAtom : Try.prog.underlying 39 = some (.slice 84) := by kernel_rfl
theorem ty_el_LAtom : elOf Try.prog 39 = some (84, 2, 32) := by kernel_rfl
theorem ty_kind_Relation : kindOf Try.prog 127 = some (some 3) := by kernel_rfl
theorem ty_size_Relation : sizeIn Try.prog 127 = some 3 := by kernel_rfl
theorem ty_zero_Relation : zeroCells? Try.prog 127 = some [.d (.v (.string ⟨#[]⟩)), .d (.v (.int .i64 0)), .d (.v (.int .i64 0))] := by kernel_rfl
theorem ty_off_Relation_0 : fieldOff Try.prog 127 0 = some 0 := by kernel_rfl
theorem ty_off_Relation_1 : fieldOff Try.prog 127 1 = some 1 := by kernel_rfl
theorem ty_off_Relation_2 : fieldOff Try.prog 127 2 = some 2 := by kernel_rfl
theorem ty_pl_Relation : structPl Try.prog 127 = some [(0, 1), (1, 1), (2, 1)] := by kernel_rfl
theorem ty_kind_Fact : kindOf Try.prog 124 = some (some 2) := by kernel_rfl
theorem ty_size_Fact : sizeIn Try.prog 124 = some 2 := by kernel_rfl
theorem ty_zero_Fact : zeroCells? Try.prog 124 = some [.d (.v (.int .i64 0)), .d (.v (.slice none 0 0))] := by kernel_rfl
theorem ty_off_Fact_0 : fieldOff Try.prog 124 0 = some 0 := by kernel_rfl
theorem ty_off_Fact_1 : fieldOff Try.prog 124 1 = some 1 := by kernel_rfl
theorem ty_pl_Fact : structPl Try.prog 124 = some [(0, 1), (1, 1)] := by kernel_rfl
theorem ty_kind_Database : kindOf Try.prog 64 = some (some 2) := by kernel_rfl
theorem ty_size_Database : sizeIn Try.prog 64 = some 2 := by kernel_rfl
theorem ty_zero_Database : zeroCells? Try.prog 64 = some [.d (.v (.slice none 0 0)), .d (.v (.slice none 0 0))] := by kernel_rfl
theorem ty_off_Database_0 : fieldOff Try.prog 64 0 = some 0 := by kernel_rfl
theorem ty_off_Database_1 : fieldOff Try.prog 64 1 = some 1 := by kernel_rfl
theorem ty_pl_Database : structPl Try.prog 64 = some [(0, 1), (1, 1)] := by kernel_rfl
theorem ty_kind_ConflictEdge : kindOf Try.prog 78 = some (some 2) := by kernel_rfl
theorem ty_size_ConflictEdge : sizeIn Try.prog 78 = some 2 := by kernel_rfl
theorem ty_zero_ConflictEdge : zeroCells? Try.prog 78 = some [.d (.v (.int .i64 0)), .d (.v (.int .i64 0))] := by kernel_rfl
theorem ty_off_ConflictEdge_0 : fieldOff Try.prog 78 0 = some 0 := by kernel_rfl
theorem ty_off_ConflictEdge_1 : fieldOff Try.prog 78 1 = some 1 := by kernel_rfl
theorem ty_pl_ConflictEdge : structPl Try.prog 78 = some [(0, 1), (1, 1)] := by kernel_rfl
theorem ty_kind_Atom : kindOf Try.prog 84 = some (some 2) := by kernel_rfl
theorem ty_size_Atom : sizeIn Try.prog 84 = some 2 := by kernel_rfl
theorem ty_zero_Atom : zeroCells? Try.prog 84 = some [.d (.v (.int .i64 0)), .d (.v (.slice none 0 0))] := by kernel_rfl
theorem ty_off_Atom_0 : fieldOff Try.prog 84 0 = some 0 := by kernel_rfl
theorem ty_off_Atom_1 : fieldOff Try.prog 84 1 = some 1 := by kernel_rfl
theorem ty_pl_Atom : structPl Try.prog 84 = some [(0, 1), (1, 1)] := by kernel_rfl
theorem ty_kind_Query : kindOf Try.prog 41 = some (some 3) := by kernel_rfl
theorem ty_size_Query : sizeIn Try.prog 41 = some 3 := by kernel_rfl
theorem ty_zero_Query : zeroCells? Try.prog 41 = some [.d (.v (.int .i64 0)), .d (.v (.slice none 0 0)), .d (.v (.slice none 0 0))] := by kernel_rfl
theorem ty_off_Query_0 : fieldOff Try.prog 41 0 = some 0 := by kernel_rfl
theorem ty_off_Query_1 : fieldOff Try.prog 41 1 = some 1 := by kernel_rfl
theorem ty_off_Query_2 : fieldOff Try.prog 41 2 = some 2 := by kernel_rfl
theorem ty_pl_Query : structPl Try.prog 41 = some [(0, 1), (1, 1), (2, 1)] := by kernel_rfl
theorem ty_mix : Try.prog.follows .mixedOrders = true := by kernel_rfl
theorem tyL : (kindOf Try.prog 3 = some none) ∧ (sizeIn Try.prog 3 = some 1) ∧ (zeroCells? Try.prog 3 = some [.d (.v (.int .i64 0))]) ∧ (kindOf Try.prog 4 = some none) ∧ (sizeIn Try.prog 4 = some 1) ∧ (zeroCells? Try.prog 4 = some [.d (.v (.bool false))]) ∧ (kindOf Try.prog 9 = some none) ∧ (sizeIn Try.prog 9 = some 1) ∧ (zeroCells? Try.prog 9 = some [.d (.v (.string ⟨#[]⟩))]) ∧ (kindOf Try.prog 141 = some none) ∧ (sizeIn Try.prog 141 = some 1) ∧ (zeroCells? Try.prog 141 = some [.d (.v (.int .u64 0))]) ∧ (kindOf Try.prog 5 = some none) ∧ (sizeIn Try.prog 5 = some 1) ∧ (zeroCells? Try.prog 5 = some [.d (.v (.int .u8 0))]) ∧ (kindOf Try.prog 23 = some none) ∧ (sizeIn Try.prog 23 = some 1) ∧ (zeroCells? Try.prog 23 = some [.d (.v (.slice none 0 0))]) ∧ (Try.prog.underlying 23 = some (.slice 3)) ∧ (elOf Try.prog 23 = some (3, 1, 8)) ∧ (kindOf Try.prog 22 = some none) ∧ (sizeIn Try.prog 22 = some 1) ∧ (zeroCells? Try.prog 22 = some [.d (.v (.slice none 0 0))]) ∧ (Try.prog.underlying 22 = some (.slice 23)) ∧ (elOf Try.prog 22 = some (23, 1, 24)) ∧ (kindOf Try.prog 61 = some none) ∧ (sizeIn Try.prog 61 = some 1) ∧ (zeroCells? Try.prog 61 = some [.d (.v (.slice none 0 0))]) ∧ (Try.prog.underlying 61 = some (.slice 127)) ∧ (elOf Try.prog 61 = some (127, 3, 32)) ∧ (kindOf Try.prog 62 = some none) ∧ (sizeIn Try.prog 62 = some 1) ∧ (zeroCells? Try.prog 62 = some [.d (.v (.slice none 0 0))]) ∧ (Try.prog.underlying 62 = some (.slice 124)) ∧ (elOf Try.prog 62 = some (124, 2, 32)) ∧ (kindOf Try.prog 35 = some none) ∧ (sizeIn Try.prog 35 = some 1) ∧ (zeroCells? Try.prog 35 = some [.d (.v (.slice none 0 0))]) ∧ (Try.prog.underlying 35 = some (.slice 78)) ∧ (elOf Try.prog 35 = some (78, 2, 16)) ∧ (kindOf Try.prog 39 = some none) ∧ (sizeIn Try.prog 39 = some 1) ∧ (zeroCells? Try.prog 39 = some [.d (.v (.slice none 0 0))]) ∧ (Try.prog.underlying 39 = some (.slice 84)) ∧ (elOf Try.prog 39 = some (84, 2, 32)) ∧ (kindOf Try.prog 127 = some (some 3)) ∧ (sizeIn Try.prog 127 = some 3) ∧ (zeroCells? Try.prog 127 = some [.d (.v (.string ⟨#[]⟩)), .d (.v (.int .i64 0)), .d (.v (.int .i64 0))]) ∧ (fieldOff Try.prog 127 0 = some 0) ∧ (fieldOff Try.prog 127 1 = some 1) ∧ (fieldOff Try.prog 127 2 = some 2) ∧ (structPl Try.prog 127 = some [(0, 1), (1, 1), (2, 1)]) ∧ (kindOf Try.prog 124 = some (some 2)) ∧ (sizeIn Try.prog 124 = some 2) ∧ (zeroCells? Try.prog 124 = some [.d (.v (.int .i64 0)), .d (.v (.slice none 0 0))]) ∧ (fieldOff Try.prog 124 0 = some 0) ∧ (fieldOff Try.prog 124 1 = some 1) ∧ (structPl Try.prog 124 = some [(0, 1), (1, 1)]) ∧ (kindOf Try.prog 64 = some (some 2)) ∧ (sizeIn Try.prog 64 = some 2) ∧ (zeroCells? Try.prog 64 = some [.d (.v (.slice none 0 0)), .d (.v (.slice none 0 0))]) ∧ (fieldOff Try.prog 64 0 = some 0) ∧ (fieldOff Try.prog 64 1 = some 1) ∧ (structPl Try.prog 64 = some [(0, 1), (1, 1)]) ∧ (kindOf Try.prog 78 = some (some 2)) ∧ (sizeIn Try.prog 78 = some 2) ∧ (zeroCells? Try.prog 78 = some [.d (.v (.int .i64 0)), .d (.v (.int .i64 0))]) ∧ (fieldOff Try.prog 78 0 = some 0) ∧ (fieldOff Try.prog 78 1 = some 1) ∧ (structPl Try.prog 78 = some [(0, 1), (1, 1)]) ∧ (kindOf Try.prog 84 = some (some 2)) ∧ (sizeIn Try.prog 84 = some 2) ∧ (zeroCells? Try.prog 84 = some [.d (.v (.int .i64 0)), .d (.v (.slice none 0 0))]) ∧ (fieldOff Try.prog 84 0 = some 0) ∧ (fieldOff Try.prog 84 1 = some 1) ∧ (structPl Try.prog 84 = some [(0, 1), (1, 1)]) ∧ (kindOf Try.prog 41 = some (some 3)) ∧ (sizeIn Try.prog 41 = some 3) ∧ (zeroCells? Try.prog 41 = some [.d (.v (.int .i64 0)), .d (.v (.slice none 0 0)), .d (.v (.slice none 0 0))]) ∧ (fieldOff Try.prog 41 0 = some 0) ∧ (fieldOff Try.prog 41 1 = some 1) ∧ (fieldOff Try.prog 41 2 = some 2) ∧ (structPl Try.prog 41 = some [(0, 1), (1, 1), (2, 1)]) :=
  ⟨ty_kind_int, ty_size_int, ty_zero_int, ty_kind_bool, ty_size_bool, ty_zero_bool, ty_kind_string, ty_size_string, ty_zero_string, ty_kind_bitSet, ty_size_bitSet, ty_zero_bitSet, ty_kind_uint8, ty_size_uint8, ty_zero_uint8, ty_kind_Lint, ty_size_Lint, ty_zero_Lint, ty_und_Lint, ty_el_Lint, ty_kind_LLint, ty_size_LLint, ty_zero_LLint, ty_und_LLint, ty_el_LLint, ty_kind_LRelation, ty_size_LRelation, ty_zero_LRelation, ty_und_LRelation, ty_el_LRelation, ty_kind_LFact, ty_size_LFact, ty_zero_LFact, ty_und_LFact, ty_el_LFact, ty_kind_LConflictEdge, ty_size_LConflictEdge, ty_zero_LConflictEdge, ty_und_LConflictEdge, ty_el_LConflictEdge, ty_kind_LAtom, ty_size_LAtom, ty_zero_LAtom, ty_und_LAtom, ty_el_LAtom, ty_kind_Relation, ty_size_Relation, ty_zero_Relation, ty_off_Relation_0, ty_off_Relation_1, ty_off_Relation_2, ty_pl_Relation, ty_kind_Fact, ty_size_Fact, ty_zero_Fact, ty_off_Fact_0, ty_off_Fact_1, ty_pl_Fact, ty_kind_Database, ty_size_Database, ty_zero_Database, ty_off_Database_0, ty_off_Database_1, ty_pl_Database, ty_kind_ConflictEdge, ty_size_ConflictEdge, ty_zero_ConflictEdge, ty_off_ConflictEdge_0, ty_off_ConflictEdge_1, ty_pl_ConflictEdge, ty_kind_Atom, ty_size_Atom, ty_zero_Atom, ty_off_Atom_0, ty_off_Atom_1, ty_pl_Atom, ty_kind_Query, ty_size_Query, ty_zero_Query, ty_off_Query_0, ty_off_Query_1, ty_off_Query_2, ty_pl_Query⟩
end Go.Proofs.Ytknnnebjjjldpaa.Ab


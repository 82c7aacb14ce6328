/- What the reckoning asks of the types. Written by gen/abty.py. -/
import Derived.Test.YtgoofnhhhlncoaaAbTwo
import Derived.Test.YtgoofnhhhlncoaaProg
open Go Go.Proofs Go.RowKit
namespace Go.Proofs.Ytgoofnhhhlncoaa.Ab
set_option maxRecDepth 100000

theorem ty_kind_int : kindOf Try.prog 3 = some none := by kernel_rfl
theorem ty_size_int : sizeIn Try.prog 3 = some 1 := by kernel_rfl
theorem ty_zero_int : zeroCells? Try.prog 3 = some [.d (.v (.int .i64 0))] := by kernel_rfl
theorem ty_kind_bool : kindOf Try.prog 4 = some none := by kernel_rfl
theorem ty_size_bool : sizeIn Try.prog 4 = some 1 := by kernel_rfl
theorem ty_zero_bool : zeroCells? Try.prog 4 = some [.d (.v (.bool false))] := by kernel_rfl
theorem ty_kind_string : kindOf Try.prog 9 = some none := by kernel_rfl
theorem ty_size_string : sizeIn Try.prog 9 = some 1 := by kernel_rfl
theorem ty_zero_string : zeroCells? Try.prog 9 = some [.d (.v (.string ⟨#[]⟩))] := by kernel_rfl
theorem ty_kind_bitSet : kindOf Try.prog 170 = some none := by kernel_rfl
theorem ty_size_bitSet : sizeIn Try.prog 170 = some 1 := by kernel_rfl
theorem ty_zero_bitSet : zeroCells? Try.prog 170 = some [.d (.v (.int .u64 0))] := by kernel_rfl
theorem ty_kind_uint8 : kindOf Try.prog 5 = some none := by kernel_rfl
theorem ty_size_uint8 : sizeIn Try.prog 5 = some 1 := by kernel_rfl
theorem ty_zero_uint8 : zeroCells? Try.prog 5 = some [.d (.v (.int .u8 0))] := by kernel_rfl
theorem ty_kind_Lint : kindOf Try.prog 23 = some none := by kernel_rfl
theorem ty_size_Lint : sizeIn Try.prog 23 = some 1 := by kernel_rfl
theorem ty_zero_Lint : zeroCells? Try.prog 23 = some [.d (.v (.slice none 0 0))] := by kernel_rfl
theorem ty_und_Lint : Try.prog.underlying 23 = some (.slice 3) := by kernel_rfl
theorem ty_el_Lint : elOf Try.prog 23 = some (3, 1, 8) := by kernel_rfl
theorem ty_kind_LLint : kindOf Try.prog 57 = some none := by kernel_rfl
theorem ty_size_LLint : sizeIn Try.prog 57 = some 1 := by kernel_rfl
theorem ty_zero_LLint : zeroCells? Try.prog 57 = some [.d (.v (.slice none 0 0))] := by kernel_rfl
theorem ty_und_LLint : Try.prog.underlying 57 = some (.slice 23) := by kernel_rfl
theorem ty_el_LLint : elOf Try.prog 57 = some (23, 1, 24) := by kernel_rfl
theorem ty_kind_Lbool : kindOf Try.prog 165 = some none := by kernel_rfl
theorem ty_size_Lbool : sizeIn Try.prog 165 = some 1 := by kernel_rfl
theorem ty_zero_Lbool : zeroCells? Try.prog 165 = some [.d (.v (.slice none 0 0))] := by kernel_rfl
theorem ty_und_Lbool : Try.prog.underlying 165 = some (.slice 4) := by kernel_rfl
theorem ty_el_Lbool : elOf Try.prog 165 = some (4, 1, 1) := by kernel_rfl
theorem ty_kind_Luint8 : kindOf Try.prog 222 = some none := by kernel_rfl
theorem ty_size_Luint8 : sizeIn Try.prog 222 = some 1 := by kernel_rfl
theorem ty_zero_Luint8 : zeroCells? Try.prog 222 = some [.d (.v (.slice none 0 0))] := by kernel_rfl
theorem ty_und_Luint8 : Try.prog.underlying 222 = some (.slice 5) := by kernel_rfl
theorem ty_el_Luint8 : elOf Try.prog 222 = some (5, 1, 1) := by kernel_rfl
theorem ty_kind_LRelation : kindOf Try.prog 43 = some none := by kernel_rfl
theorem ty_size_LRelation : sizeIn Try.prog 43 = some 1 := by kernel_rfl
theorem ty_zero_LRelation : zeroCells? Try.prog 43 = some [.d (.v (.slice none 0 0))] := by kernel_rfl
theorem ty_und_LRelation : Try.prog.underlying 43 = some (.slice 161) := by kernel_rfl
theorem ty_el_LRelation : elOf Try.prog 43 = some (161, 3, 32) := by kernel_rfl
theorem ty_kind_LFact : kindOf Try.prog 44 = some none := by kernel_rfl
theorem ty_size_LFact : sizeIn Try.prog 44 = some 1 := by kernel_rfl
theorem ty_zero_LFact : zeroCells? Try.prog 44 = some [.d (.v (.slice none 0 0))] := by kernel_rfl
theorem ty_und_LFact : Try.prog.underlying 44 = some (.slice 50) := by kernel_rfl
theorem ty_el_LFact : elOf Try.prog 44 = some (50, 2, 32) := by kernel_rfl
theorem ty_kind_LConflictEdge : kindOf Try.prog 79 = some none := by kernel_rfl
theorem ty_size_LConflictEdge : sizeIn Try.prog 79 = some 1 := by kernel_rfl
theorem ty_zero_LConflictEdge : zeroCells? Try.prog 79 = some [.d (.v (.slice none 0 0))] := by kernel_rfl
theorem ty_und_LConflictEdge : Try.prog.underlying 79 = some (.slice 151) := by kernel_rfl
theorem ty_el_LConflictEdge : elOf Try.prog 79 = some (151, 2, 16) := by kernel_rfl
theorem ty_kind_LAtom : kindOf Try.prog 27 = some none := by kernel_rfl
theorem ty_size_LAtom : sizeIn Try.prog 27 = some 1 := by kernel_rfl
theorem ty_zero_LAtom : zeroCells? Try.prog 27 = some [.d (.v (.slice none 0 0))] := by kernel_rfl
theorem ty_und_LAtom : Try.prog.underlying 27 = some (.slice 110) := by kernel_rfl
theorem ty_el_LAtom : elOf Try.prog 27 = some (110, 2, 32) := by kernel_rfl
theorem ty_kind_LRewritingStep : kindOf Try.prog 97 = some none := by kernel_rfl
theorem ty_size_LRewritingStep : sizeIn Try.prog 97 = some 1 := by kernel_rfl
theorem ty_zero_LRewritingStep : zeroCells? Try.prog 97 = some [.d (.v (.slice none 0 0))] := by kernel_rfl
theorem ty_und_LRewritingStep : Try.prog.underlying 97 = some (.slice 181) := by kernel_rfl
theorem ty_el_LRewritingStep : elOf Try.prog 97 = some (181, 4, 80) := by kernel_rfl
theorem ty_kind_LDerivationStep : kindOf Try.prog 136 = some none := by kernel_rfl
theorem ty_size_LDerivationStep : sizeIn Try.prog 136 = some 1 := by kernel_rfl
theorem ty_zero_LDerivationStep : zeroCells? Try.prog 136 = some [.d (.v (.slice none 0 0))] := by kernel_rfl
theorem ty_und_LDerivationStep : Try.prog.underlying 136 = some (.slice 209) := by kernel_rfl
theorem ty_el_LDerivationStep : elOf Try.prog 136 = some (209, 2, 32) := by kernel_rfl
theorem ty_kind_LbitSet : kindOf Try.prog 167 = some none := by kernel_rfl
theorem ty_size_LbitSet : sizeIn Try.prog 167 = some 1 := by kernel_rfl
theorem ty_zero_LbitSet : zeroCells? Try.prog 167 = some [.d (.v (.slice none 0 0))] := by kernel_rfl
theorem ty_und_LbitSet : Try.prog.underlying 167 = some (.slice 170) := by kernel_rfl
theorem ty_el_LbitSet : elOf Try.prog 167 = some (170, 1, 8) := by kernel_rfl
theorem ty_kind_Relation : kindOf Try.prog 161 = some (some 3) := by kernel_rfl
theorem ty_size_Relation : sizeIn Try.prog 161 = some 3 := by kernel_rfl
theorem ty_zero_Relation : zeroCells? Try.prog 161 = some [.d (.v (.string ⟨#[]⟩)), .d (.v (.int .i64 0)), .d (.v (.int .i64 0))] := by kernel_rfl
theorem ty_off_Relation_0 : fieldOff Try.prog 161 0 = some 0 := by kernel_rfl
theorem ty_off_Relation_1 : fieldOff Try.prog 161 1 = some 1 := by kernel_rfl
theorem ty_off_Relation_2 : fieldOff Try.prog 161 2 = some 2 := by kernel_rfl
theorem ty_pl_Relation : structPl Try.prog 161 = some [(0, 1), (1, 1), (2, 1)] := by kernel_rfl
theorem ty_kind_Fact : kindOf Try.prog 50 = some (some 2) := by kernel_rfl
theorem ty_size_Fact : sizeIn Try.prog 50 = some 2 := by kernel_rfl
theorem ty_zero_Fact : zeroCells? Try.prog 50 = some [.d (.v (.int .i64 0)), .d (.v (.slice none 0 0))] := by kernel_rfl
theorem ty_off_Fact_0 : fieldOff Try.prog 50 0 = some 0 := by kernel_rfl
theorem ty_off_Fact_1 : fieldOff Try.prog 50 1 = some 1 := by kernel_rfl
theorem ty_pl_Fact : structPl Try.prog 50 = some [(0, 1), (1, 1)] := by kernel_rfl
theorem ty_kind_Database : kindOf Try.prog 46 = some (some 2) := by kernel_rfl
theorem ty_size_Database : sizeIn Try.prog 46 = some 2 := by kernel_rfl
theorem ty_zero_Database : zeroCells? Try.prog 46 = some [.d (.v (.slice none 0 0)), .d (.v (.slice none 0 0))] := by kernel_rfl
theorem ty_off_Database_0 : fieldOff Try.prog 46 0 = some 0 := by kernel_rfl
theorem ty_off_Database_1 : fieldOff Try.prog 46 1 = some 1 := by kernel_rfl
theorem ty_pl_Database : structPl Try.prog 46 = some [(0, 1), (1, 1)] := by kernel_rfl
theorem ty_kind_ConflictEdge : kindOf Try.prog 151 = some (some 2) := by kernel_rfl
theorem ty_size_ConflictEdge : sizeIn Try.prog 151 = some 2 := by kernel_rfl
theorem ty_zero_ConflictEdge : zeroCells? Try.prog 151 = some [.d (.v (.int .i64 0)), .d (.v (.int .i64 0))] := by kernel_rfl
theorem ty_off_ConflictEdge_0 : fieldOff Try.prog 151 0 = some 0 := by kernel_rfl
theorem ty_off_ConflictEdge_1 : fieldOff Try.prog 151 1 = some 1 := by kernel_rfl
theorem ty_pl_ConflictEdge : structPl Try.prog 151 = some [(0, 1), (1, 1)] := by kernel_rfl
theorem ty_kind_Atom : kindOf Try.prog 110 = some (some 2) := by kernel_rfl
theorem ty_size_Atom : sizeIn Try.prog 110 = some 2 := by kernel_rfl
theorem ty_zero_Atom : zeroCells? Try.prog 110 = some [.d (.v (.int .i64 0)), .d (.v (.slice none 0 0))] := by kernel_rfl
theorem ty_off_Atom_0 : fieldOff Try.prog 110 0 = some 0 := by kernel_rfl
theorem ty_off_Atom_1 : fieldOff Try.prog 110 1 = some 1 := by kernel_rfl
theorem ty_pl_Atom : structPl Try.prog 110 = some [(0, 1), (1, 1)] := by kernel_rfl
theorem ty_kind_Query : kindOf Try.prog 29 = some (some 3) := by kernel_rfl
theorem ty_size_Query : sizeIn Try.prog 29 = some 3 := by kernel_rfl
theorem ty_zero_Query : zeroCells? Try.prog 29 = some [.d (.v (.int .i64 0)), .d (.v (.slice none 0 0)), .d (.v (.slice none 0 0))] := by kernel_rfl
theorem ty_off_Query_0 : fieldOff Try.prog 29 0 = some 0 := by kernel_rfl
theorem ty_off_Query_1 : fieldOff Try.prog 29 1 = some 1 := by kernel_rfl
theorem ty_off_Query_2 : fieldOff Try.prog 29 2 = some 2 := by kernel_rfl
theorem ty_pl_Query : structPl Try.prog 29 = some [(0, 1), (1, 1), (2, 1)] := by kernel_rfl
theorem ty_kind_RewritingStep : kindOf Try.prog 181 = some (some 4) := by kernel_rfl
theorem ty_size_RewritingStep : sizeIn Try.prog 181 = some 4 := by kernel_rfl
theorem ty_zero_RewritingStep : zeroCells? Try.prog 181 = some [.d (.v (.int .i64 0)), .d (.v (.slice none 0 0)), .d (.v (.slice none 0 0)), .d (.v (.slice none 0 0))] := by kernel_rfl
theorem ty_off_RewritingStep_0 : fieldOff Try.prog 181 0 = some 0 := by kernel_rfl
theorem ty_off_RewritingStep_1 : fieldOff Try.prog 181 1 = some 2 := by kernel_rfl
theorem ty_off_RewritingStep_2 : fieldOff Try.prog 181 2 = some 3 := by kernel_rfl
theorem ty_pl_RewritingStep : structPl Try.prog 181 = some [(0, 2), (2, 1), (3, 1)] := by kernel_rfl
theorem ty_kind_DerivationStep : kindOf Try.prog 209 = some (some 2) := by kernel_rfl
theorem ty_size_DerivationStep : sizeIn Try.prog 209 = some 2 := by kernel_rfl
theorem ty_zero_DerivationStep : zeroCells? Try.prog 209 = some [.d (.v (.slice none 0 0)), .d (.v (.int .i64 0))] := by kernel_rfl
theorem ty_off_DerivationStep_0 : fieldOff Try.prog 209 0 = some 0 := by kernel_rfl
theorem ty_off_DerivationStep_1 : fieldOff Try.prog 209 1 = some 1 := by kernel_rfl
theorem ty_pl_DerivationStep : structPl Try.prog 209 = some [(0, 1), (1, 1)] := by kernel_rfl
theorem ty_kind_Justification : kindOf Try.prog 138 = some (some 6) := by kernel_rfl
theorem ty_size_Justification : sizeIn Try.prog 138 = some 6 := by kernel_rfl
theorem ty_zero_Justification : zeroCells? Try.prog 138 = some [.d (.v (.int .i64 0)), .d (.v (.bool false)), .d (.v (.slice none 0 0)), .d (.v (.slice none 0 0)), .d (.v (.slice none 0 0)), .d (.v (.slice none 0 0))] := by kernel_rfl
theorem ty_off_Justification_0 : fieldOff Try.prog 138 0 = some 0 := by kernel_rfl
theorem ty_off_Justification_1 : fieldOff Try.prog 138 1 = some 1 := by kernel_rfl
theorem ty_off_Justification_2 : fieldOff Try.prog 138 2 = some 2 := by kernel_rfl
theorem ty_off_Justification_3 : fieldOff Try.prog 138 3 = some 3 := by kernel_rfl
theorem ty_off_Justification_4 : fieldOff Try.prog 138 4 = some 4 := by kernel_rfl
theorem ty_off_Justification_5 : fieldOff Try.prog 138 5 = some 5 := by kernel_rfl
theorem ty_pl_Justification : structPl Try.prog 138 = some [(0, 1), (1, 1), (2, 1), (3, 1), (4, 1), (5, 1)] := by kernel_rfl
theorem ty_mix : Try.prog.follows .mixedOrders = true := by kernel_rfl
theorem tyL : ((((((((kindOf Try.prog 3 = some none) ∧ (sizeIn Try.prog 3 = some 1)) ∧ ((zeroCells? Try.prog 3 = some [.d (.v (.int .i64 0))]) ∧ (kindOf Try.prog 4 = some none))) ∧ (((sizeIn Try.prog 4 = some 1) ∧ (zeroCells? Try.prog 4 = some [.d (.v (.bool false))])) ∧ ((kindOf Try.prog 9 = some none) ∧ (sizeIn Try.prog 9 = some 1)))) ∧ ((((zeroCells? Try.prog 9 = some [.d (.v (.string ⟨#[]⟩))]) ∧ (kindOf Try.prog 170 = some none)) ∧ ((sizeIn Try.prog 170 = some 1) ∧ (zeroCells? Try.prog 170 = some [.d (.v (.int .u64 0))]))) ∧ (((kindOf Try.prog 5 = some none) ∧ (sizeIn Try.prog 5 = some 1)) ∧ ((zeroCells? Try.prog 5 = some [.d (.v (.int .u8 0))]) ∧ (kindOf Try.prog 23 = some none))))) ∧ (((((sizeIn Try.prog 23 = some 1) ∧ (zeroCells? Try.prog 23 = some [.d (.v (.slice none 0 0))])) ∧ ((Try.prog.underlying 23 = some (.slice 3)) ∧ (elOf Try.prog 23 = some (3, 1, 8)))) ∧ (((kindOf Try.prog 57 = some none) ∧ (sizeIn Try.prog 57 = some 1)) ∧ ((zeroCells? Try.prog 57 = some [.d (.v (.slice none 0 0))]) ∧ (Try.prog.underlying 57 = some (.slice 23))))) ∧ ((((elOf Try.prog 57 = some (23, 1, 24)) ∧ (kindOf Try.prog 165 = some none)) ∧ ((sizeIn Try.prog 165 = some 1) ∧ (zeroCells? Try.prog 165 = some [.d (.v (.slice none 0 0))]))) ∧ (((Try.prog.underlying 165 = some (.slice 4)) ∧ (elOf Try.prog 165 = some (4, 1, 1))) ∧ ((kindOf Try.prog 222 = some none) ∧ (sizeIn Try.prog 222 = some 1)))))) ∧ ((((((zeroCells? Try.prog 222 = some [.d (.v (.slice none 0 0))]) ∧ (Try.prog.underlying 222 = some (.slice 5))) ∧ ((elOf Try.prog 222 = some (5, 1, 1)) ∧ (kindOf Try.prog 43 = some none))) ∧ (((sizeIn Try.prog 43 = some 1) ∧ (zeroCells? Try.prog 43 = some [.d (.v (.slice none 0 0))])) ∧ ((Try.prog.underlying 43 = some (.slice 161)) ∧ (elOf Try.prog 43 = some (161, 3, 32))))) ∧ ((((kindOf Try.prog 44 = some none) ∧ (sizeIn Try.prog 44 = some 1)) ∧ ((zeroCells? Try.prog 44 = some [.d (.v (.slice none 0 0))]) ∧ (Try.prog.underlying 44 = some (.slice 50)))) ∧ (((elOf Try.prog 44 = some (50, 2, 32)) ∧ (kindOf Try.prog 79 = some none)) ∧ ((sizeIn Try.prog 79 = some 1) ∧ (zeroCells? Try.prog 79 = some [.d (.v (.slice none 0 0))]))))) ∧ (((((Try.prog.underlying 79 = some (.slice 151)) ∧ (elOf Try.prog 79 = some (151, 2, 16))) ∧ ((kindOf Try.prog 27 = some none) ∧ (sizeIn Try.prog 27 = some 1))) ∧ (((zeroCells? Try.prog 27 = some [.d (.v (.slice none 0 0))]) ∧ (Try.prog.underlying 27 = some (.slice 110))) ∧ ((elOf Try.prog 27 = some (110, 2, 32)) ∧ (kindOf Try.prog 97 = some none)))) ∧ ((((sizeIn Try.prog 97 = some 1) ∧ (zeroCells? Try.prog 97 = some [.d (.v (.slice none 0 0))])) ∧ ((Try.prog.underlying 97 = some (.slice 181)) ∧ (elOf Try.prog 97 = some (181, 4, 80)))) ∧ (((kindOf Try.prog 136 = some none) ∧ (sizeIn Try.prog 136 = some 1)) ∧ ((zeroCells? Try.prog 136 = some [.d (.v (.slice none 0 0))]) ∧ ((Try.prog.underlying 136 = some (.slice 209)) ∧ (elOf Try.prog 136 = some (209, 2, 32))))))))) ∧ (((((((kindOf Try.prog 167 = some none) ∧ (sizeIn Try.prog 167 = some 1)) ∧ ((zeroCells? Try.prog 167 = some [.d (.v (.slice none 0 0))]) ∧ (Try.prog.underlying 167 = some (.slice 170)))) ∧ (((elOf Try.prog 167 = some (170, 1, 8)) ∧ (kindOf Try.prog 161 = some (some 3))) ∧ ((sizeIn Try.prog 161 = some 3) ∧ (zeroCells? Try.prog 161 = some [.d (.v (.string ⟨#[]⟩)), .d (.v (.int .i64 0)), .d (.v (.int .i64 0))])))) ∧ ((((fieldOff Try.prog 161 0 = some 0) ∧ (fieldOff Try.prog 161 1 = some 1)) ∧ ((fieldOff Try.prog 161 2 = some 2) ∧ (structPl Try.prog 161 = some [(0, 1), (1, 1), (2, 1)]))) ∧ (((kindOf Try.prog 50 = some (some 2)) ∧ (sizeIn Try.prog 50 = some 2)) ∧ ((zeroCells? Try.prog 50 = some [.d (.v (.int .i64 0)), .d (.v (.slice none 0 0))]) ∧ (fieldOff Try.prog 50 0 = some 0))))) ∧ (((((fieldOff Try.prog 50 1 = some 1) ∧ (structPl Try.prog 50 = some [(0, 1), (1, 1)])) ∧ ((kindOf Try.prog 46 = some (some 2)) ∧ (sizeIn Try.prog 46 = some 2))) ∧ (((zeroCells? Try.prog 46 = some [.d (.v (.slice none 0 0)), .d (.v (.slice none 0 0))]) ∧ (fieldOff Try.prog 46 0 = some 0)) ∧ ((fieldOff Try.prog 46 1 = some 1) ∧ (structPl Try.prog 46 = some [(0, 1), (1, 1)])))) ∧ ((((kindOf Try.prog 151 = some (some 2)) ∧ (sizeIn Try.prog 151 = some 2)) ∧ ((zeroCells? Try.prog 151 = some [.d (.v (.int .i64 0)), .d (.v (.int .i64 0))]) ∧ (fieldOff Try.prog 151 0 = some 0))) ∧ (((fieldOff Try.prog 151 1 = some 1) ∧ (structPl Try.prog 151 = some [(0, 1), (1, 1)])) ∧ ((kindOf Try.prog 110 = some (some 2)) ∧ ((sizeIn Try.prog 110 = some 2) ∧ (zeroCells? Try.prog 110 = some [.d (.v (.int .i64 0)), .d (.v (.slice none 0 0))]))))))) ∧ ((((((fieldOff Try.prog 110 0 = some 0) ∧ (fieldOff Try.prog 110 1 = some 1)) ∧ ((structPl Try.prog 110 = some [(0, 1), (1, 1)]) ∧ (kindOf Try.prog 29 = some (some 3)))) ∧ (((sizeIn Try.prog 29 = some 3) ∧ (zeroCells? Try.prog 29 = some [.d (.v (.int .i64 0)), .d (.v (.slice none 0 0)), .d (.v (.slice none 0 0))])) ∧ ((fieldOff Try.prog 29 0 = some 0) ∧ (fieldOff Try.prog 29 1 = some 1)))) ∧ ((((fieldOff Try.prog 29 2 = some 2) ∧ (structPl Try.prog 29 = some [(0, 1), (1, 1), (2, 1)])) ∧ ((kindOf Try.prog 181 = some (some 4)) ∧ (sizeIn Try.prog 181 = some 4))) ∧ (((zeroCells? Try.prog 181 = some [.d (.v (.int .i64 0)), .d (.v (.slice none 0 0)), .d (.v (.slice none 0 0)), .d (.v (.slice none 0 0))]) ∧ (fieldOff Try.prog 181 0 = some 0)) ∧ ((fieldOff Try.prog 181 1 = some 2) ∧ (fieldOff Try.prog 181 2 = some 3))))) ∧ (((((structPl Try.prog 181 = some [(0, 2), (2, 1), (3, 1)]) ∧ (kindOf Try.prog 209 = some (some 2))) ∧ ((sizeIn Try.prog 209 = some 2) ∧ (zeroCells? Try.prog 209 = some [.d (.v (.slice none 0 0)), .d (.v (.int .i64 0))]))) ∧ (((fieldOff Try.prog 209 0 = some 0) ∧ (fieldOff Try.prog 209 1 = some 1)) ∧ ((structPl Try.prog 209 = some [(0, 1), (1, 1)]) ∧ (kindOf Try.prog 138 = some (some 6))))) ∧ ((((sizeIn Try.prog 138 = some 6) ∧ (zeroCells? Try.prog 138 = some [.d (.v (.int .i64 0)), .d (.v (.bool false)), .d (.v (.slice none 0 0)), .d (.v (.slice none 0 0)), .d (.v (.slice none 0 0)), .d (.v (.slice none 0 0))])) ∧ ((fieldOff Try.prog 138 0 = some 0) ∧ (fieldOff Try.prog 138 1 = some 1))) ∧ (((fieldOff Try.prog 138 2 = some 2) ∧ (fieldOff Try.prog 138 3 = some 3)) ∧ ((fieldOff Try.prog 138 4 = some 4) ∧ ((fieldOff Try.prog 138 5 = some 5) ∧ (structPl Try.prog 138 = some [(0, 1), (1, 1), (2, 1), (3, 1), (4, 1), (5, 1)]))))))))) :=
  ⟨⟨⟨⟨⟨⟨⟨ty_kind_int, ty_size_int⟩, ⟨ty_zero_int, ty_kind_bool⟩⟩, ⟨⟨ty_size_bool, ty_zero_bool⟩, ⟨ty_kind_string, ty_size_string⟩⟩⟩, ⟨⟨⟨ty_zero_string, ty_kind_bitSet⟩, ⟨ty_size_bitSet, ty_zero_bitSet⟩⟩, ⟨⟨ty_kind_uint8, ty_size_uint8⟩, ⟨ty_zero_uint8, ty_kind_Lint⟩⟩⟩⟩, ⟨⟨⟨⟨ty_size_Lint, ty_zero_Lint⟩, ⟨ty_und_Lint, ty_el_Lint⟩⟩, ⟨⟨ty_kind_LLint, ty_size_LLint⟩, ⟨ty_zero_LLint, ty_und_LLint⟩⟩⟩, ⟨⟨⟨ty_el_LLint, ty_kind_Lbool⟩, ⟨ty_size_Lbool, ty_zero_Lbool⟩⟩, ⟨⟨ty_und_Lbool, ty_el_Lbool⟩, ⟨ty_kind_Luint8, ty_size_Luint8⟩⟩⟩⟩⟩, ⟨⟨⟨⟨⟨ty_zero_Luint8, ty_und_Luint8⟩, ⟨ty_el_Luint8, ty_kind_LRelation⟩⟩, ⟨⟨ty_size_LRelation, ty_zero_LRelation⟩, ⟨ty_und_LRelation, ty_el_LRelation⟩⟩⟩, ⟨⟨⟨ty_kind_LFact, ty_size_LFact⟩, ⟨ty_zero_LFact, ty_und_LFact⟩⟩, ⟨⟨ty_el_LFact, ty_kind_LConflictEdge⟩, ⟨ty_size_LConflictEdge, ty_zero_LConflictEdge⟩⟩⟩⟩, ⟨⟨⟨⟨ty_und_LConflictEdge, ty_el_LConflictEdge⟩, ⟨ty_kind_LAtom, ty_size_LAtom⟩⟩, ⟨⟨ty_zero_LAtom, ty_und_LAtom⟩, ⟨ty_el_LAtom, ty_kind_LRewritingStep⟩⟩⟩, ⟨⟨⟨ty_size_LRewritingStep, ty_zero_LRewritingStep⟩, ⟨ty_und_LRewritingStep, ty_el_LRewritingStep⟩⟩, ⟨⟨ty_kind_LDerivationStep, ty_size_LDerivationStep⟩, ⟨ty_zero_LDerivationStep, ⟨ty_und_LDerivationStep, ty_el_LDerivationStep⟩⟩⟩⟩⟩⟩⟩, ⟨⟨⟨⟨⟨⟨ty_kind_LbitSet, ty_size_LbitSet⟩, ⟨ty_zero_LbitSet, ty_und_LbitSet⟩⟩, ⟨⟨ty_el_LbitSet, ty_kind_Relation⟩, ⟨ty_size_Relation, ty_zero_Relation⟩⟩⟩, ⟨⟨⟨ty_off_Relation_0, ty_off_Relation_1⟩, ⟨ty_off_Relation_2, ty_pl_Relation⟩⟩, ⟨⟨ty_kind_Fact, ty_size_Fact⟩, ⟨ty_zero_Fact, ty_off_Fact_0⟩⟩⟩⟩, ⟨⟨⟨⟨ty_off_Fact_1, ty_pl_Fact⟩, ⟨ty_kind_Database, ty_size_Database⟩⟩, ⟨⟨ty_zero_Database, ty_off_Database_0⟩, ⟨ty_off_Database_1, ty_pl_Database⟩⟩⟩, ⟨⟨⟨ty_kind_ConflictEdge, ty_size_ConflictEdge⟩, ⟨ty_zero_ConflictEdge, ty_off_ConflictEdge_0⟩⟩, ⟨⟨ty_off_ConflictEdge_1, ty_pl_ConflictEdge⟩, ⟨ty_kind_Atom, ⟨ty_size_Atom, ty_zero_Atom⟩⟩⟩⟩⟩⟩, ⟨⟨⟨⟨⟨ty_off_Atom_0, ty_off_Atom_1⟩, ⟨ty_pl_Atom, ty_kind_Query⟩⟩, ⟨⟨ty_size_Query, ty_zero_Query⟩, ⟨ty_off_Query_0, ty_off_Query_1⟩⟩⟩, ⟨⟨⟨ty_off_Query_2, ty_pl_Query⟩, ⟨ty_kind_RewritingStep, ty_size_RewritingStep⟩⟩, ⟨⟨ty_zero_RewritingStep, ty_off_RewritingStep_0⟩, ⟨ty_off_RewritingStep_1, ty_off_RewritingStep_2⟩⟩⟩⟩, ⟨⟨⟨⟨ty_pl_RewritingStep, ty_kind_DerivationStep⟩, ⟨ty_size_DerivationStep, ty_zero_DerivationStep⟩⟩, ⟨⟨ty_off_DerivationStep_0, ty_off_DerivationStep_1⟩, ⟨ty_pl_DerivationStep, ty_kind_Justification⟩⟩⟩, ⟨⟨⟨ty_size_Justification, ty_zero_Justification⟩, ⟨ty_off_Justification_0, ty_off_Justification_1⟩⟩, ⟨⟨ty_off_Justification_2, ty_off_Justification_3⟩, ⟨ty_off_Justification_4, ⟨ty_off_Justification_5, ty_pl_Justification⟩⟩⟩⟩⟩⟩⟩⟩
end Go.Proofs.Ytgoofnhhhlncoaa.Ab


/- What the reckoning asks of the types. Written by gen/abty.py. -/
import Derived.Test.YtpfljebndnfpmaaAbTwo
import Derived.Test.YtpfljebndnfpmaaProg
open Go Go.Proofs Go.RowKit
namespace Go.Proofs.Ytpfljebndnfpmaa.Ab
set_option maxRecDepth 100000

theorem ty_kind_int : kindOf Try.prog 3 = some none := by kernel_rfl
theorem ty_size_int : sizeIn Try.prog 3 = some 1 := by kernel_rfl
theorem ty_zero_int : zeroCells? Try.prog 3 = some [.d (.v (.int .i64 0))] := by kernel_rfl
theorem ty_kind_bool : kindOf Try.prog 4 = some none := by kernel_rfl
theorem ty_size_bool : sizeIn Try.prog 4 = some 1 := by kernel_rfl
theorem ty_zero_bool : zeroCells? Try.prog 4 = some [.d (.v (.bool false))] := by kernel_rfl
theorem ty_kind_string : kindOf Try.prog 9 = some none := by kernel_rfl
theorem ty_size_string : sizeIn Try.prog 9 = some 1 := by kernel_rfl
theorem ty_zero_string : zeroCells? Try.prog 9 = some [.d (.v (.string ⟨#[]⟩))] := by kernel_rfl
theorem ty_kind_uint8 : kindOf Try.prog 5 = some none := by kernel_rfl
theorem ty_size_uint8 : sizeIn Try.prog 5 = some 1 := by kernel_rfl
theorem ty_zero_uint8 : zeroCells? Try.prog 5 = some [.d (.v (.int .u8 0))] := by kernel_rfl
theorem ty_kind_Lint : kindOf Try.prog 45 = some none := by kernel_rfl
theorem ty_size_Lint : sizeIn Try.prog 45 = some 1 := by kernel_rfl
theorem ty_zero_Lint : zeroCells? Try.prog 45 = some [.d (.v (.slice none 0 0))] := by kernel_rfl
theorem ty_und_Lint : Try.prog.underlying 45 = some (.slice 3) := by kernel_rfl
theorem ty_el_Lint : elOf Try.prog 45 = some (3, 1, 8) := by kernel_rfl
theorem ty_kind_LLint : kindOf Try.prog 54 = some none := by kernel_rfl
theorem ty_size_LLint : sizeIn Try.prog 54 = some 1 := by kernel_rfl
theorem ty_zero_LLint : zeroCells? Try.prog 54 = some [.d (.v (.slice none 0 0))] := by kernel_rfl
theorem ty_und_LLint : Try.prog.underlying 54 = some (.slice 45) := by kernel_rfl
theorem ty_el_LLint : elOf Try.prog 54 = some (45, 1, 24) := by kernel_rfl
theorem ty_kind_Luint8 : kindOf Try.prog 192 = some none := by kernel_rfl
theorem ty_size_Luint8 : sizeIn Try.prog 192 = some 1 := by kernel_rfl
theorem ty_zero_Luint8 : zeroCells? Try.prog 192 = some [.d (.v (.slice none 0 0))] := by kernel_rfl
theorem ty_und_Luint8 : Try.prog.underlying 192 = some (.slice 5) := by kernel_rfl
theorem ty_el_Luint8 : elOf Try.prog 192 = some (5, 1, 1) := by kernel_rfl
theorem ty_kind_LRelation : kindOf Try.prog 31 = some none := by kernel_rfl
theorem ty_size_LRelation : sizeIn Try.prog 31 = some 1 := by kernel_rfl
theorem ty_zero_LRelation : zeroCells? Try.prog 31 = some [.d (.v (.slice none 0 0))] := by kernel_rfl
theorem ty_und_LRelation : Try.prog.underlying 31 = some (.slice 144) := by kernel_rfl
theorem ty_el_LRelation : elOf Try.prog 31 = some (144, 3, 32) := by kernel_rfl
theorem ty_kind_LFact : kindOf Try.prog 32 = some none := by kernel_rfl
theorem ty_size_LFact : sizeIn Try.prog 32 = some 1 := by kernel_rfl
theorem ty_zero_LFact : zeroCells? Try.prog 32 = some [.d (.v (.slice none 0 0))] := by kernel_rfl
theorem ty_und_LFact : Try.prog.underlying 32 = some (.slice 157) := by kernel_rfl
theorem ty_el_LFact : elOf Try.prog 32 = some (157, 2, 32) := by kernel_rfl
theorem ty_kind_LConflictEdge : kindOf Try.prog 29 = some none := by kernel_rfl
theorem ty_size_LConflictEdge : sizeIn Try.prog 29 = some 1 := by kernel_rfl
theorem ty_zero_LConflictEdge : zeroCells? Try.prog 29 = some [.d (.v (.slice none 0 0))] := by kernel_rfl
theorem ty_und_LConflictEdge : Try.prog.underlying 29 = some (.slice 89) := by kernel_rfl
theorem ty_el_LConflictEdge : elOf Try.prog 29 = some (89, 2, 16) := by kernel_rfl
theorem ty_kind_LDenialConstraint : kindOf Try.prog 36 = some none := by kernel_rfl
theorem ty_size_LDenialConstraint : sizeIn Try.prog 36 = some 1 := by kernel_rfl
theorem ty_zero_LDenialConstraint : zeroCells? Try.prog 36 = some [.d (.v (.slice none 0 0))] := by kernel_rfl
theorem ty_und_LDenialConstraint : Try.prog.underlying 36 = some (.slice 92) := by kernel_rfl
theorem ty_el_LDenialConstraint : elOf Try.prog 36 = some (92, 7, 56) := by kernel_rfl
theorem ty_kind_LAtom : kindOf Try.prog 70 = some none := by kernel_rfl
theorem ty_size_LAtom : sizeIn Try.prog 70 = some 1 := by kernel_rfl
theorem ty_zero_LAtom : zeroCells? Try.prog 70 = some [.d (.v (.slice none 0 0))] := by kernel_rfl
theorem ty_und_LAtom : Try.prog.underlying 70 = some (.slice 139) := by kernel_rfl
theorem ty_el_LAtom : elOf Try.prog 70 = some (139, 2, 32) := by kernel_rfl
theorem ty_kind_LRewritingStep : kindOf Try.prog 82 = some none := by kernel_rfl
theorem ty_size_LRewritingStep : sizeIn Try.prog 82 = some 1 := by kernel_rfl
theorem ty_zero_LRewritingStep : zeroCells? Try.prog 82 = some [.d (.v (.slice none 0 0))] := by kernel_rfl
theorem ty_und_LRewritingStep : Try.prog.underlying 82 = some (.slice 141) := by kernel_rfl
theorem ty_el_LRewritingStep : elOf Try.prog 82 = some (141, 4, 80) := by kernel_rfl
theorem ty_kind_LDerivationStep : kindOf Try.prog 114 = some none := by kernel_rfl
theorem ty_size_LDerivationStep : sizeIn Try.prog 114 = some 1 := by kernel_rfl
theorem ty_zero_LDerivationStep : zeroCells? Try.prog 114 = some [.d (.v (.slice none 0 0))] := by kernel_rfl
theorem ty_und_LDerivationStep : Try.prog.underlying 114 = some (.slice 171) := by kernel_rfl
theorem ty_el_LDerivationStep : elOf Try.prog 114 = some (171, 2, 32) := by kernel_rfl
theorem ty_kind_LExplanation : kindOf Try.prog 56 = some none := by kernel_rfl
theorem ty_size_LExplanation : sizeIn Try.prog 56 = some 1 := by kernel_rfl
theorem ty_zero_LExplanation : zeroCells? Try.prog 56 = some [.d (.v (.slice none 0 0))] := by kernel_rfl
theorem ty_und_LExplanation : Try.prog.underlying 56 = some (.slice 118) := by kernel_rfl
theorem ty_el_LExplanation : elOf Try.prog 56 = some (118, 7, 136) := by kernel_rfl
theorem ty_kind_Relation : kindOf Try.prog 144 = some (some 3) := by kernel_rfl
theorem ty_size_Relation : sizeIn Try.prog 144 = some 3 := by kernel_rfl
theorem ty_zero_Relation : zeroCells? Try.prog 144 = some [.d (.v (.string ⟨#[]⟩)), .d (.v (.int .i64 0)), .d (.v (.int .i64 0))] := by kernel_rfl
theorem ty_off_Relation_0 : fieldOff Try.prog 144 0 = some 0 := by kernel_rfl
theorem ty_off_Relation_1 : fieldOff Try.prog 144 1 = some 1 := by kernel_rfl
theorem ty_off_Relation_2 : fieldOff Try.prog 144 2 = some 2 := by kernel_rfl
theorem ty_pl_Relation : structPl Try.prog 144 = some [(0, 1), (1, 1), (2, 1)] := by kernel_rfl
theorem ty_kind_Fact : kindOf Try.prog 157 = some (some 2) := by kernel_rfl
theorem ty_size_Fact : sizeIn Try.prog 157 = some 2 := by kernel_rfl
theorem ty_zero_Fact : zeroCells? Try.prog 157 = some [.d (.v (.int .i64 0)), .d (.v (.slice none 0 0))] := by kernel_rfl
theorem ty_off_Fact_0 : fieldOff Try.prog 157 0 = some 0 := by kernel_rfl
theorem ty_off_Fact_1 : fieldOff Try.prog 157 1 = some 1 := by kernel_rfl
theorem ty_pl_Fact : structPl Try.prog 157 = some [(0, 1), (1, 1)] := by kernel_rfl
theorem ty_kind_Database : kindOf Try.prog 34 = some (some 2) := by kernel_rfl
theorem ty_size_Database : sizeIn Try.prog 34 = some 2 := by kernel_rfl
theorem ty_zero_Database : zeroCells? Try.prog 34 = some [.d (.v (.slice none 0 0)), .d (.v (.slice none 0 0))] := by kernel_rfl
theorem ty_off_Database_0 : fieldOff Try.prog 34 0 = some 0 := by kernel_rfl
theorem ty_off_Database_1 : fieldOff Try.prog 34 1 = some 1 := by kernel_rfl
theorem ty_pl_Database : structPl Try.prog 34 = some [(0, 1), (1, 1)] := by kernel_rfl
theorem ty_kind_ConflictEdge : kindOf Try.prog 89 = some (some 2) := by kernel_rfl
theorem ty_size_ConflictEdge : sizeIn Try.prog 89 = some 2 := by kernel_rfl
theorem ty_zero_ConflictEdge : zeroCells? Try.prog 89 = some [.d (.v (.int .i64 0)), .d (.v (.int .i64 0))] := by kernel_rfl
theorem ty_off_ConflictEdge_0 : fieldOff Try.prog 89 0 = some 0 := by kernel_rfl
theorem ty_off_ConflictEdge_1 : fieldOff Try.prog 89 1 = some 1 := by kernel_rfl
theorem ty_pl_ConflictEdge : structPl Try.prog 89 = some [(0, 1), (1, 1)] := by kernel_rfl
theorem ty_kind_DenialConstraint : kindOf Try.prog 92 = some (some 7) := by kernel_rfl
theorem ty_size_DenialConstraint : sizeIn Try.prog 92 = some 7 := by kernel_rfl
theorem ty_zero_DenialConstraint : zeroCells? Try.prog 92 = some [.d (.v (.int .i64 0)), .d (.v (.int .i64 0)), .d (.v (.int .i64 0)), .d (.v (.int .i64 0)), .d (.v (.int .i64 0)), .d (.v (.int .i64 0)), .d (.v (.int .i64 0))] := by kernel_rfl
theorem ty_off_DenialConstraint_0 : fieldOff Try.prog 92 0 = some 0 := by kernel_rfl
theorem ty_off_DenialConstraint_1 : fieldOff Try.prog 92 1 = some 1 := by kernel_rfl
theorem ty_off_DenialConstraint_2 : fieldOff Try.prog 92 2 = some 2 := by kernel_rfl
theorem ty_off_DenialConstraint_3 : fieldOff Try.prog 92 3 = some 3 := by kernel_rfl
theorem ty_off_DenialConstraint_4 : fieldOff Try.prog 92 4 = some 4 := by kernel_rfl
theorem ty_off_DenialConstraint_5 : fieldOff Try.prog 92 5 = some 5 := by kernel_rfl
theorem ty_off_DenialConstraint_6 : fieldOff Try.prog 92 6 = some 6 := by kernel_rfl
theorem ty_pl_DenialConstraint : structPl Try.prog 92 = some [(0, 1), (1, 1), (2, 1), (3, 1), (4, 1), (5, 1), (6, 1)] := by kernel_rfl
theorem ty_kind_Atom : kindOf Try.prog 139 = some (some 2) := by kernel_rfl
theorem ty_size_Atom : sizeIn Try.prog 139 = some 2 := by kernel_rfl
theorem ty_zero_Atom : zeroCells? Try.prog 139 = some [.d (.v (.int .i64 0)), .d (.v (.slice none 0 0))] := by kernel_rfl
theorem ty_off_Atom_0 : fieldOff Try.prog 139 0 = some 0 := by kernel_rfl
theorem ty_off_Atom_1 : fieldOff Try.prog 139 1 = some 1 := by kernel_rfl
theorem ty_pl_Atom : structPl Try.prog 139 = some [(0, 1), (1, 1)] := by kernel_rfl
theorem ty_kind_Query : kindOf Try.prog 72 = some (some 3) := by kernel_rfl
theorem ty_size_Query : sizeIn Try.prog 72 = some 3 := by kernel_rfl
theorem ty_zero_Query : zeroCells? Try.prog 72 = some [.d (.v (.int .i64 0)), .d (.v (.slice none 0 0)), .d (.v (.slice none 0 0))] := by kernel_rfl
theorem ty_off_Query_0 : fieldOff Try.prog 72 0 = some 0 := by kernel_rfl
theorem ty_off_Query_1 : fieldOff Try.prog 72 1 = some 1 := by kernel_rfl
theorem ty_off_Query_2 : fieldOff Try.prog 72 2 = some 2 := by kernel_rfl
theorem ty_pl_Query : structPl Try.prog 72 = some [(0, 1), (1, 1), (2, 1)] := by kernel_rfl
theorem ty_kind_RewritingStep : kindOf Try.prog 141 = some (some 4) := by kernel_rfl
theorem ty_size_RewritingStep : sizeIn Try.prog 141 = some 4 := by kernel_rfl
theorem ty_zero_RewritingStep : zeroCells? Try.prog 141 = some [.d (.v (.int .i64 0)), .d (.v (.slice none 0 0)), .d (.v (.slice none 0 0)), .d (.v (.slice none 0 0))] := by kernel_rfl
theorem ty_off_RewritingStep_0 : fieldOff Try.prog 141 0 = some 0 := by kernel_rfl
theorem ty_off_RewritingStep_1 : fieldOff Try.prog 141 1 = some 2 := by kernel_rfl
theorem ty_off_RewritingStep_2 : fieldOff Try.prog 141 2 = some 3 := by kernel_rfl
theorem ty_pl_RewritingStep : structPl Try.prog 141 = some [(0, 2), (2, 1), (3, 1)] := by kernel_rfl
theorem ty_kind_DerivationStep : kindOf Try.prog 171 = some (some 2) := by kernel_rfl
theorem ty_size_DerivationStep : sizeIn Try.prog 171 = some 2 := by kernel_rfl
theorem ty_zero_DerivationStep : zeroCells? Try.prog 171 = some [.d (.v (.slice none 0 0)), .d (.v (.int .i64 0))] := by kernel_rfl
theorem ty_off_DerivationStep_0 : fieldOff Try.prog 171 0 = some 0 := by kernel_rfl
theorem ty_off_DerivationStep_1 : fieldOff Try.prog 171 1 = some 1 := by kernel_rfl
theorem ty_pl_DerivationStep : structPl Try.prog 171 = some [(0, 1), (1, 1)] := by kernel_rfl
theorem ty_kind_Justification : kindOf Try.prog 116 = some (some 6) := by kernel_rfl
theorem ty_size_Justification : sizeIn Try.prog 116 = some 6 := by kernel_rfl
theorem ty_zero_Justification : zeroCells? Try.prog 116 = some [.d (.v (.int .i64 0)), .d (.v (.bool false)), .d (.v (.slice none 0 0)), .d (.v (.slice none 0 0)), .d (.v (.slice none 0 0)), .d (.v (.slice none 0 0))] := by kernel_rfl
theorem ty_off_Justification_0 : fieldOff Try.prog 116 0 = some 0 := by kernel_rfl
theorem ty_off_Justification_1 : fieldOff Try.prog 116 1 = some 1 := by kernel_rfl
theorem ty_off_Justification_2 : fieldOff Try.prog 116 2 = some 2 := by kernel_rfl
theorem ty_off_Justification_3 : fieldOff Try.prog 116 3 = some 3 := by kernel_rfl
theorem ty_off_Justification_4 : fieldOff Try.prog 116 4 = some 4 := by kernel_rfl
theorem ty_off_Justification_5 : fieldOff Try.prog 116 5 = some 5 := by kernel_rfl
theorem ty_pl_Justification : structPl Try.prog 116 = some [(0, 1), (1, 1), (2, 1), (3, 1), (4, 1), (5, 1)] := by kernel_rfl
theorem ty_kind_View : kindOf Try.prog 74 = some (some 7) := by kernel_rfl
theorem ty_size_View : sizeIn Try.prog 74 = some 7 := by kernel_rfl
theorem ty_zero_View : zeroCells? Try.prog 74 = some [.d (.v (.slice none 0 0)), .d (.v (.slice none 0 0)), .d (.v (.int .i64 0)), .d (.v (.slice none 0 0)), .d (.v (.slice none 0 0)), .d (.v (.slice none 0 0)), .d (.v (.slice none 0 0))] := by kernel_rfl
theorem ty_off_View_0 : fieldOff Try.prog 74 0 = some 0 := by kernel_rfl
theorem ty_off_View_1 : fieldOff Try.prog 74 1 = some 2 := by kernel_rfl
theorem ty_off_View_2 : fieldOff Try.prog 74 2 = some 5 := by kernel_rfl
theorem ty_off_View_3 : fieldOff Try.prog 74 3 = some 6 := by kernel_rfl
theorem ty_pl_View : structPl Try.prog 74 = some [(0, 2), (2, 3), (5, 1), (6, 1)] := by kernel_rfl
theorem ty_kind_Explanation : kindOf Try.prog 118 = some (some 7) := by kernel_rfl
theorem ty_size_Explanation : sizeIn Try.prog 118 = some 7 := by kernel_rfl
theorem ty_zero_Explanation : zeroCells? Try.prog 118 = some [.d (.v (.slice none 0 0)), .d (.v (.int .i64 0)), .d (.v (.bool false)), .d (.v (.slice none 0 0)), .d (.v (.slice none 0 0)), .d (.v (.slice none 0 0)), .d (.v (.slice none 0 0))] := by kernel_rfl
theorem ty_off_Explanation_0 : fieldOff Try.prog 118 0 = some 0 := by kernel_rfl
theorem ty_off_Explanation_1 : fieldOff Try.prog 118 1 = some 1 := by kernel_rfl
theorem ty_pl_Explanation : structPl Try.prog 118 = some [(0, 1), (1, 6)] := by kernel_rfl
theorem ty_und_string : Try.prog.underlying 9 = some (.string) := by kernel_rfl
theorem ty_und_int : Try.prog.underlying 3 = some (.int .i64) := by kernel_rfl
theorem ty_und_uint8 : Try.prog.underlying 5 = some (.int .u8) := by kernel_rfl
theorem ty_und_int32 : Try.prog.underlying 21 = some (.int .i32) := by kernel_rfl
theorem ty_mix : Try.prog.follows .mixedOrders = true := by kernel_rfl
theorem tyL : ((((((((kindOf Try.prog 3 = some none) ∧ (sizeIn Try.prog 3 = some 1)) ∧ ((zeroCells? Try.prog 3 = some [.d (.v (.int .i64 0))]) ∧ (kindOf Try.prog 4 = some none))) ∧ (((sizeIn Try.prog 4 = some 1) ∧ (zeroCells? Try.prog 4 = some [.d (.v (.bool false))])) ∧ ((kindOf Try.prog 9 = some none) ∧ ((sizeIn Try.prog 9 = some 1) ∧ (zeroCells? Try.prog 9 = some [.d (.v (.string ⟨#[]⟩))]))))) ∧ ((((kindOf Try.prog 5 = some none) ∧ (sizeIn Try.prog 5 = some 1)) ∧ ((zeroCells? Try.prog 5 = some [.d (.v (.int .u8 0))]) ∧ ((kindOf Try.prog 45 = some none) ∧ (sizeIn Try.prog 45 = some 1)))) ∧ (((zeroCells? Try.prog 45 = some [.d (.v (.slice none 0 0))]) ∧ (Try.prog.underlying 45 = some (.slice 3))) ∧ ((elOf Try.prog 45 = some (3, 1, 8)) ∧ ((kindOf Try.prog 54 = some none) ∧ (sizeIn Try.prog 54 = some 1)))))) ∧ (((((zeroCells? Try.prog 54 = some [.d (.v (.slice none 0 0))]) ∧ (Try.prog.underlying 54 = some (.slice 45))) ∧ ((elOf Try.prog 54 = some (45, 1, 24)) ∧ ((kindOf Try.prog 192 = some none) ∧ (sizeIn Try.prog 192 = some 1)))) ∧ (((zeroCells? Try.prog 192 = some [.d (.v (.slice none 0 0))]) ∧ (Try.prog.underlying 192 = some (.slice 5))) ∧ ((elOf Try.prog 192 = some (5, 1, 1)) ∧ ((kindOf Try.prog 31 = some none) ∧ (sizeIn Try.prog 31 = some 1))))) ∧ ((((zeroCells? Try.prog 31 = some [.d (.v (.slice none 0 0))]) ∧ (Try.prog.underlying 31 = some (.slice 144))) ∧ ((elOf Try.prog 31 = some (144, 3, 32)) ∧ ((kindOf Try.prog 32 = some none) ∧ (sizeIn Try.prog 32 = some 1)))) ∧ (((zeroCells? Try.prog 32 = some [.d (.v (.slice none 0 0))]) ∧ (Try.prog.underlying 32 = some (.slice 157))) ∧ ((elOf Try.prog 32 = some (157, 2, 32)) ∧ ((kindOf Try.prog 29 = some none) ∧ (sizeIn Try.prog 29 = some 1))))))) ∧ ((((((zeroCells? Try.prog 29 = some [.d (.v (.slice none 0 0))]) ∧ (Try.prog.underlying 29 = some (.slice 89))) ∧ ((elOf Try.prog 29 = some (89, 2, 16)) ∧ (kindOf Try.prog 36 = some none))) ∧ (((sizeIn Try.prog 36 = some 1) ∧ (zeroCells? Try.prog 36 = some [.d (.v (.slice none 0 0))])) ∧ ((Try.prog.underlying 36 = some (.slice 92)) ∧ ((elOf Try.prog 36 = some (92, 7, 56)) ∧ (kindOf Try.prog 70 = some none))))) ∧ ((((sizeIn Try.prog 70 = some 1) ∧ (zeroCells? Try.prog 70 = some [.d (.v (.slice none 0 0))])) ∧ ((Try.prog.underlying 70 = some (.slice 139)) ∧ ((elOf Try.prog 70 = some (139, 2, 32)) ∧ (kindOf Try.prog 82 = some none)))) ∧ (((sizeIn Try.prog 82 = some 1) ∧ (zeroCells? Try.prog 82 = some [.d (.v (.slice none 0 0))])) ∧ ((Try.prog.underlying 82 = some (.slice 141)) ∧ ((elOf Try.prog 82 = some (141, 4, 80)) ∧ (kindOf Try.prog 114 = some none)))))) ∧ (((((sizeIn Try.prog 114 = some 1) ∧ (zeroCells? Try.prog 114 = some [.d (.v (.slice none 0 0))])) ∧ ((Try.prog.underlying 114 = some (.slice 171)) ∧ ((elOf Try.prog 114 = some (171, 2, 32)) ∧ (kindOf Try.prog 56 = some none)))) ∧ (((sizeIn Try.prog 56 = some 1) ∧ (zeroCells? Try.prog 56 = some [.d (.v (.slice none 0 0))])) ∧ ((Try.prog.underlying 56 = some (.slice 118)) ∧ ((elOf Try.prog 56 = some (118, 7, 136)) ∧ (kindOf Try.prog 144 = some (some 3)))))) ∧ ((((sizeIn Try.prog 144 = some 3) ∧ (zeroCells? Try.prog 144 = some [.d (.v (.string ⟨#[]⟩)), .d (.v (.int .i64 0)), .d (.v (.int .i64 0))])) ∧ ((fieldOff Try.prog 144 0 = some 0) ∧ ((fieldOff Try.prog 144 1 = some 1) ∧ (fieldOff Try.prog 144 2 = some 2)))) ∧ (((structPl Try.prog 144 = some [(0, 1), (1, 1), (2, 1)]) ∧ (kindOf Try.prog 157 = some (some 2))) ∧ ((sizeIn Try.prog 157 = some 2) ∧ ((zeroCells? Try.prog 157 = some [.d (.v (.int .i64 0)), .d (.v (.slice none 0 0))]) ∧ (fieldOff Try.prog 157 0 = some 0)))))))) ∧ (((((((fieldOff Try.prog 157 1 = some 1) ∧ (structPl Try.prog 157 = some [(0, 1), (1, 1)])) ∧ ((kindOf Try.prog 34 = some (some 2)) ∧ (sizeIn Try.prog 34 = some 2))) ∧ (((zeroCells? Try.prog 34 = some [.d (.v (.slice none 0 0)), .d (.v (.slice none 0 0))]) ∧ (fieldOff Try.prog 34 0 = some 0)) ∧ ((fieldOff Try.prog 34 1 = some 1) ∧ ((structPl Try.prog 34 = some [(0, 1), (1, 1)]) ∧ (kindOf Try.prog 89 = some (some 2)))))) ∧ ((((sizeIn Try.prog 89 = some 2) ∧ (zeroCells? Try.prog 89 = some [.d (.v (.int .i64 0)), .d (.v (.int .i64 0))])) ∧ ((fieldOff Try.prog 89 0 = some 0) ∧ ((fieldOff Try.prog 89 1 = some 1) ∧ (structPl Try.prog 89 = some [(0, 1), (1, 1)])))) ∧ (((kindOf Try.prog 92 = some (some 7)) ∧ (sizeIn Try.prog 92 = some 7)) ∧ ((zeroCells? Try.prog 92 = some [.d (.v (.int .i64 0)), .d (.v (.int .i64 0)), .d (.v (.int .i64 0)), .d (.v (.int .i64 0)), .d (.v (.int .i64 0)), .d (.v (.int .i64 0)), .d (.v (.int .i64 0))]) ∧ ((fieldOff Try.prog 92 0 = some 0) ∧ (fieldOff Try.prog 92 1 = some 1)))))) ∧ (((((fieldOff Try.prog 92 2 = some 2) ∧ (fieldOff Try.prog 92 3 = some 3)) ∧ ((fieldOff Try.prog 92 4 = some 4) ∧ ((fieldOff Try.prog 92 5 = some 5) ∧ (fieldOff Try.prog 92 6 = some 6)))) ∧ (((structPl Try.prog 92 = some [(0, 1), (1, 1), (2, 1), (3, 1), (4, 1), (5, 1), (6, 1)]) ∧ (kindOf Try.prog 139 = some (some 2))) ∧ ((sizeIn Try.prog 139 = some 2) ∧ ((zeroCells? Try.prog 139 = some [.d (.v (.int .i64 0)), .d (.v (.slice none 0 0))]) ∧ (fieldOff Try.prog 139 0 = some 0))))) ∧ ((((fieldOff Try.prog 139 1 = some 1) ∧ (structPl Try.prog 139 = some [(0, 1), (1, 1)])) ∧ ((kindOf Try.prog 72 = some (some 3)) ∧ ((sizeIn Try.prog 72 = some 3) ∧ (zeroCells? Try.prog 72 = some [.d (.v (.int .i64 0)), .d (.v (.slice none 0 0)), .d (.v (.slice none 0 0))])))) ∧ (((fieldOff Try.prog 72 0 = some 0) ∧ (fieldOff Try.prog 72 1 = some 1)) ∧ ((fieldOff Try.prog 72 2 = some 2) ∧ ((structPl Try.prog 72 = some [(0, 1), (1, 1), (2, 1)]) ∧ (kindOf Try.prog 141 = some (some 4)))))))) ∧ ((((((sizeIn Try.prog 141 = some 4) ∧ (zeroCells? Try.prog 141 = some [.d (.v (.int .i64 0)), .d (.v (.slice none 0 0)), .d (.v (.slice none 0 0)), .d (.v (.slice none 0 0))])) ∧ ((fieldOff Try.prog 141 0 = some 0) ∧ ((fieldOff Try.prog 141 1 = some 2) ∧ (fieldOff Try.prog 141 2 = some 3)))) ∧ (((structPl Try.prog 141 = some [(0, 2), (2, 1), (3, 1)]) ∧ (kindOf Try.prog 171 = some (some 2))) ∧ ((sizeIn Try.prog 171 = some 2) ∧ ((zeroCells? Try.prog 171 = some [.d (.v (.slice none 0 0)), .d (.v (.int .i64 0))]) ∧ (fieldOff Try.prog 171 0 = some 0))))) ∧ ((((fieldOff Try.prog 171 1 = some 1) ∧ (structPl Try.prog 171 = some [(0, 1), (1, 1)])) ∧ ((kindOf Try.prog 116 = some (some 6)) ∧ ((sizeIn Try.prog 116 = some 6) ∧ (zeroCells? Try.prog 116 = some [.d (.v (.int .i64 0)), .d (.v (.bool false)), .d (.v (.slice none 0 0)), .d (.v (.slice none 0 0)), .d (.v (.slice none 0 0)), .d (.v (.slice none 0 0))])))) ∧ (((fieldOff Try.prog 116 0 = some 0) ∧ (fieldOff Try.prog 116 1 = some 1)) ∧ ((fieldOff Try.prog 116 2 = some 2) ∧ ((fieldOff Try.prog 116 3 = some 3) ∧ (fieldOff Try.prog 116 4 = some 4)))))) ∧ (((((fieldOff Try.prog 116 5 = some 5) ∧ (structPl Try.prog 116 = some [(0, 1), (1, 1), (2, 1), (3, 1), (4, 1), (5, 1)])) ∧ ((kindOf Try.prog 74 = some (some 7)) ∧ ((sizeIn Try.prog 74 = some 7) ∧ (zeroCells? Try.prog 74 = some [.d (.v (.slice none 0 0)), .d (.v (.slice none 0 0)), .d (.v (.int .i64 0)), .d (.v (.slice none 0 0)), .d (.v (.slice none 0 0)), .d (.v (.slice none 0 0)), .d (.v (.slice none 0 0))])))) ∧ (((fieldOff Try.prog 74 0 = some 0) ∧ (fieldOff Try.prog 74 1 = some 2)) ∧ ((fieldOff Try.prog 74 2 = some 5) ∧ ((fieldOff Try.prog 74 3 = some 6) ∧ (structPl Try.prog 74 = some [(0, 2), (2, 3), (5, 1), (6, 1)]))))) ∧ ((((kindOf Try.prog 118 = some (some 7)) ∧ (sizeIn Try.prog 118 = some 7)) ∧ ((zeroCells? Try.prog 118 = some [.d (.v (.slice none 0 0)), .d (.v (.int .i64 0)), .d (.v (.bool false)), .d (.v (.slice none 0 0)), .d (.v (.slice none 0 0)), .d (.v (.slice none 0 0)), .d (.v (.slice none 0 0))]) ∧ ((fieldOff Try.prog 118 0 = some 0) ∧ (fieldOff Try.prog 118 1 = some 1)))) ∧ (((structPl Try.prog 118 = some [(0, 1), (1, 6)]) ∧ (Try.prog.underlying 9 = some (.string))) ∧ ((Try.prog.underlying 3 = some (.int .i64)) ∧ ((Try.prog.underlying 5 = some (.int .u8)) ∧ (Try.prog.underlying 21 = some (.int .i32)))))))))) :=
  ⟨⟨⟨⟨⟨⟨⟨ty_kind_int, ty_size_int⟩, ⟨ty_zero_int, ty_kind_bool⟩⟩, ⟨⟨ty_size_bool, ty_zero_bool⟩, ⟨ty_kind_string, ⟨ty_size_string, ty_zero_string⟩⟩⟩⟩, ⟨⟨⟨ty_kind_uint8, ty_size_uint8⟩, ⟨ty_zero_uint8, ⟨ty_kind_Lint, ty_size_Lint⟩⟩⟩, ⟨⟨ty_zero_Lint, ty_und_Lint⟩, ⟨ty_el_Lint, ⟨ty_kind_LLint, ty_size_LLint⟩⟩⟩⟩⟩, ⟨⟨⟨⟨ty_zero_LLint, ty_und_LLint⟩, ⟨ty_el_LLint, ⟨ty_kind_Luint8, ty_size_Luint8⟩⟩⟩, ⟨⟨ty_zero_Luint8, ty_und_Luint8⟩, ⟨ty_el_Luint8, ⟨ty_kind_LRelation, ty_size_LRelation⟩⟩⟩⟩, ⟨⟨⟨ty_zero_LRelation, ty_und_LRelation⟩, ⟨ty_el_LRelation, ⟨ty_kind_LFact, ty_size_LFact⟩⟩⟩, ⟨⟨ty_zero_LFact, ty_und_LFact⟩, ⟨ty_el_LFact, ⟨ty_kind_LConflictEdge, ty_size_LConflictEdge⟩⟩⟩⟩⟩⟩, ⟨⟨⟨⟨⟨ty_zero_LConflictEdge, ty_und_LConflictEdge⟩, ⟨ty_el_LConflictEdge, ty_kind_LDenialConstraint⟩⟩, ⟨⟨ty_size_LDenialConstraint, ty_zero_LDenialConstraint⟩, ⟨ty_und_LDenialConstraint, ⟨ty_el_LDenialConstraint, ty_kind_LAtom⟩⟩⟩⟩, ⟨⟨⟨ty_size_LAtom, ty_zero_LAtom⟩, ⟨ty_und_LAtom, ⟨ty_el_LAtom, ty_kind_LRewritingStep⟩⟩⟩, ⟨⟨ty_size_LRewritingStep, ty_zero_LRewritingStep⟩, ⟨ty_und_LRewritingStep, ⟨ty_el_LRewritingStep, ty_kind_LDerivationStep⟩⟩⟩⟩⟩, ⟨⟨⟨⟨ty_size_LDerivationStep, ty_zero_LDerivationStep⟩, ⟨ty_und_LDerivationStep, ⟨ty_el_LDerivationStep, ty_kind_LExplanation⟩⟩⟩, ⟨⟨ty_size_LExplanation, ty_zero_LExplanation⟩, ⟨ty_und_LExplanation, ⟨ty_el_LExplanation, ty_kind_Relation⟩⟩⟩⟩, ⟨⟨⟨ty_size_Relation, ty_zero_Relation⟩, ⟨ty_off_Relation_0, ⟨ty_off_Relation_1, ty_off_Relation_2⟩⟩⟩, ⟨⟨ty_pl_Relation, ty_kind_Fact⟩, ⟨ty_size_Fact, ⟨ty_zero_Fact, ty_off_Fact_0⟩⟩⟩⟩⟩⟩⟩, ⟨⟨⟨⟨⟨⟨ty_off_Fact_1, ty_pl_Fact⟩, ⟨ty_kind_Database, ty_size_Database⟩⟩, ⟨⟨ty_zero_Database, ty_off_Database_0⟩, ⟨ty_off_Database_1, ⟨ty_pl_Database, ty_kind_ConflictEdge⟩⟩⟩⟩, ⟨⟨⟨ty_size_ConflictEdge, ty_zero_ConflictEdge⟩, ⟨ty_off_ConflictEdge_0, ⟨ty_off_ConflictEdge_1, ty_pl_ConflictEdge⟩⟩⟩, ⟨⟨ty_kind_DenialConstraint, ty_size_DenialConstraint⟩, ⟨ty_zero_DenialConstraint, ⟨ty_off_DenialConstraint_0, ty_off_DenialConstraint_1⟩⟩⟩⟩⟩, ⟨⟨⟨⟨ty_off_DenialConstraint_2, ty_off_DenialConstraint_3⟩, ⟨ty_off_DenialConstraint_4, ⟨ty_off_DenialConstraint_5, ty_off_DenialConstraint_6⟩⟩⟩, ⟨⟨ty_pl_DenialConstraint, ty_kind_Atom⟩, ⟨ty_size_Atom, ⟨ty_zero_Atom, ty_off_Atom_0⟩⟩⟩⟩, ⟨⟨⟨ty_off_Atom_1, ty_pl_Atom⟩, ⟨ty_kind_Query, ⟨ty_size_Query, ty_zero_Query⟩⟩⟩, ⟨⟨ty_off_Query_0, ty_off_Query_1⟩, ⟨ty_off_Query_2, ⟨ty_pl_Query, ty_kind_RewritingStep⟩⟩⟩⟩⟩⟩, ⟨⟨⟨⟨⟨ty_size_RewritingStep, ty_zero_RewritingStep⟩, ⟨ty_off_RewritingStep_0, ⟨ty_off_RewritingStep_1, ty_off_RewritingStep_2⟩⟩⟩, ⟨⟨ty_pl_RewritingStep, ty_kind_DerivationStep⟩, ⟨ty_size_DerivationStep, ⟨ty_zero_DerivationStep, ty_off_DerivationStep_0⟩⟩⟩⟩, ⟨⟨⟨ty_off_DerivationStep_1, ty_pl_DerivationStep⟩, ⟨ty_kind_Justification, ⟨ty_size_Justification, ty_zero_Justification⟩⟩⟩, ⟨⟨ty_off_Justification_0, ty_off_Justification_1⟩, ⟨ty_off_Justification_2, ⟨ty_off_Justification_3, ty_off_Justification_4⟩⟩⟩⟩⟩, ⟨⟨⟨⟨ty_off_Justification_5, ty_pl_Justification⟩, ⟨ty_kind_View, ⟨ty_size_View, ty_zero_View⟩⟩⟩, ⟨⟨ty_off_View_0, ty_off_View_1⟩, ⟨ty_off_View_2, ⟨ty_off_View_3, ty_pl_View⟩⟩⟩⟩, ⟨⟨⟨ty_kind_Explanation, ty_size_Explanation⟩, ⟨ty_zero_Explanation, ⟨ty_off_Explanation_0, ty_off_Explanation_1⟩⟩⟩, ⟨⟨ty_pl_Explanation, ty_und_string⟩, ⟨ty_und_int, ⟨ty_und_uint8, ty_und_int32⟩⟩⟩⟩⟩⟩⟩⟩
end Go.Proofs.Ytpfljebndnfpmaa.Ab


/- What the reckoning asks of the types. Written by gen/abty.py. -/
import Derived.Test.YtlcogbmceanghaaAbTwo
import Derived.Test.YtlcogbmceanghaaProg
open Go Go.Proofs Go.RowKit
namespace Go.Proofs.Ytlcogbmceanghaa.Ab
set_option maxRecDepth 100000

theorem ty_kind_int : kindOf Try.prog 3 = some none := by kernel_rfl
theorem ty_size_int : sizeIn Try.prog 3 = some 1 := by kernel_rfl
theorem ty_zero_int : zeroCells? Try.prog 3 = some [.d (.v (.int .i64 0))] := by kernel_rfl
theorem ty_kind_bool : kindOf Try.prog 4 = some none := by kernel_rfl
theorem ty_size_bool : sizeIn Try.prog 4 = some 1 := by kernel_rfl
theorem ty_zero_bool : zeroCells? Try.prog 4 = some [.d (.v (.bool false))] := by kernel_rfl
theorem ty_kind_string : kindOf Try.prog 9 = some none := by kernel_rfl
theorem ty_size_string : sizeIn Try.prog 9 = some 1 := by kernel_rfl
theorem ty_zero_string : zeroCells? Try.prog 9 = some [.d (.v (.string ⟨#[]⟩))] := by kernel_rfl
theorem ty_kind_uint8 : kindOf Try.prog 5 = some none := by kernel_rfl
theorem ty_size_uint8 : sizeIn Try.prog 5 = some 1 := by kernel_rfl
theorem ty_zero_uint8 : zeroCells? Try.prog 5 = some [.d (.v (.int .u8 0))] := by kernel_rfl
theorem ty_kind_Lint : kindOf Try.prog 38 = some none := by kernel_rfl
theorem ty_size_Lint : sizeIn Try.prog 38 = some 1 := by kernel_rfl
theorem ty_zero_Lint : zeroCells? Try.prog 38 = some [.d (.v (.slice none 0 0))] := by kernel_rfl
theorem ty_und_Lint : Try.prog.underlying 38 = some (.slice 3) := by kernel_rfl
theorem ty_el_Lint : elOf Try.prog 38 = some (3, 1, 8) := by kernel_rfl
theorem ty_kind_LRelation : kindOf Try.prog 27 = some none := by kernel_rfl
theorem ty_size_LRelation : sizeIn Try.prog 27 = some 1 := by kernel_rfl
theorem ty_zero_LRelation : zeroCells? Try.prog 27 = some [.d (.v (.slice none 0 0))] := by kernel_rfl
theorem ty_und_LRelation : Try.prog.underlying 27 = some (.slice 48) := by kernel_rfl
theorem ty_el_LRelation : elOf Try.prog 27 = some (48, 3, 32) := by kernel_rfl
theorem ty_kind_LRewritingStep : kindOf Try.prog 29 = some none := by kernel_rfl
theorem ty_size_LRewritingStep : sizeIn Try.prog 29 = some 1 := by kernel_rfl
theorem ty_zero_LRewritingStep : zeroCells? Try.prog 29 = some [.d (.v (.slice none 0 0))] := by kernel_rfl
theorem ty_und_LRewritingStep : Try.prog.underlying 29 = some (.slice 45) := by kernel_rfl
theorem ty_el_LRewritingStep : elOf Try.prog 29 = some (45, 4, 80) := by kernel_rfl
theorem ty_kind_Relation : kindOf Try.prog 48 = some (some 3) := by kernel_rfl
theorem ty_size_Relation : sizeIn Try.prog 48 = some 3 := by kernel_rfl
theorem ty_zero_Relation : zeroCells? Try.prog 48 = some [.d (.v (.string ⟨#[]⟩)), .d (.v (.int .i64 0)), .d (.v (.int .i64 0))] := by kernel_rfl
theorem ty_off_Relation_0 : fieldOff Try.prog 48 0 = some 0 := by kernel_rfl
theorem ty_off_Relation_1 : fieldOff Try.prog 48 1 = some 1 := by kernel_rfl
theorem ty_off_Relation_2 : fieldOff Try.prog 48 2 = some 2 := by kernel_rfl
theorem ty_pl_Relation : structPl Try.prog 48 = some [(0, 1), (1, 1), (2, 1)] := by kernel_rfl
theorem ty_kind_Atom : kindOf Try.prog 43 = some (some 2) := by kernel_rfl
theorem ty_size_Atom : sizeIn Try.prog 43 = some 2 := by kernel_rfl
theorem ty_zero_Atom : zeroCells? Try.prog 43 = some [.d (.v (.int .i64 0)), .d (.v (.slice none 0 0))] := by kernel_rfl
theorem ty_off_Atom_0 : fieldOff Try.prog 43 0 = some 0 := by kernel_rfl
theorem ty_off_Atom_1 : fieldOff Try.prog 43 1 = some 1 := by kernel_rfl
theorem ty_pl_Atom : structPl Try.prog 43 = some [(0, 1), (1, 1)] := by kernel_rfl
theorem ty_kind_RewritingStep : kindOf Try.prog 45 = some (some 4) := by kernel_rfl
theorem ty_size_RewritingStep : sizeIn Try.prog 45 = some 4 := by kernel_rfl
theorem ty_zero_RewritingStep : zeroCells? Try.prog 45 = some [.d (.v (.int .i64 0)), .d (.v (.slice none 0 0)), .d (.v (.slice none 0 0)), .d (.v (.slice none 0 0))] := by kernel_rfl
theorem ty_off_RewritingStep_0 : fieldOff Try.prog 45 0 = some 0 := by kernel_rfl
theorem ty_off_RewritingStep_1 : fieldOff Try.prog 45 1 = some 2 := by kernel_rfl
theorem ty_off_RewritingStep_2 : fieldOff Try.prog 45 2 = some 3 := by kernel_rfl
theorem ty_pl_RewritingStep : structPl Try.prog 45 = some [(0, 2), (2, 1), (3, 1)] := by kernel_rfl
theorem ty_und_string : Try.prog.underlying 9 = some (.string) := by kernel_rfl
theorem ty_und_int : Try.prog.underlying 3 = some (.int .i64) := by kernel_rfl
theorem ty_und_uint8 : Try.prog.underlying 5 = some (.int .u8) := by kernel_rfl
theorem ty_und_int32 : Try.prog.underlying 21 = some (.int .i32) := by kernel_rfl
theorem ty_mix : Try.prog.follows .mixedOrders = true := by kernel_rfl
theorem tyL : ((((((kindOf Try.prog 3 = some none) ∧ ((sizeIn Try.prog 3 = some 1) ∧ (zeroCells? Try.prog 3 = some [.d (.v (.int .i64 0))]))) ∧ ((kindOf Try.prog 4 = some none) ∧ ((sizeIn Try.prog 4 = some 1) ∧ (zeroCells? Try.prog 4 = some [.d (.v (.bool false))])))) ∧ (((kindOf Try.prog 9 = some none) ∧ ((sizeIn Try.prog 9 = some 1) ∧ (zeroCells? Try.prog 9 = some [.d (.v (.string ⟨#[]⟩))]))) ∧ ((kindOf Try.prog 5 = some none) ∧ ((sizeIn Try.prog 5 = some 1) ∧ (zeroCells? Try.prog 5 = some [.d (.v (.int .u8 0))]))))) ∧ ((((kindOf Try.prog 38 = some none) ∧ ((sizeIn Try.prog 38 = some 1) ∧ (zeroCells? Try.prog 38 = some [.d (.v (.slice none 0 0))]))) ∧ ((Try.prog.underlying 38 = some (.slice 3)) ∧ ((elOf Try.prog 38 = some (3, 1, 8)) ∧ (kindOf Try.prog 27 = some none)))) ∧ (((sizeIn Try.prog 27 = some 1) ∧ ((zeroCells? Try.prog 27 = some [.d (.v (.slice none 0 0))]) ∧ (Try.prog.underlying 27 = some (.slice 48)))) ∧ (((elOf Try.prog 27 = some (48, 3, 32)) ∧ (kindOf Try.prog 29 = some none)) ∧ ((sizeIn Try.prog 29 = some 1) ∧ (zeroCells? Try.prog 29 = some [.d (.v (.slice none 0 0))])))))) ∧ (((((Try.prog.underlying 29 = some (.slice 45)) ∧ ((elOf Try.prog 29 = some (45, 4, 80)) ∧ (kindOf Try.prog 48 = some (some 3)))) ∧ ((sizeIn Try.prog 48 = some 3) ∧ ((zeroCells? Try.prog 48 = some [.d (.v (.string ⟨#[]⟩)), .d (.v (.int .i64 0)), .d (.v (.int .i64 0))]) ∧ (fieldOff Try.prog 48 0 = some 0)))) ∧ (((fieldOff Try.prog 48 1 = some 1) ∧ ((fieldOff Try.prog 48 2 = some 2) ∧ (structPl Try.prog 48 = some [(0, 1), (1, 1), (2, 1)]))) ∧ (((kindOf Try.prog 43 = some (some 2)) ∧ (sizeIn Try.prog 43 = some 2)) ∧ ((zeroCells? Try.prog 43 = some [.d (.v (.int .i64 0)), .d (.v (.slice none 0 0))]) ∧ (fieldOff Try.prog 43 0 = some 0))))) ∧ ((((fieldOff Try.prog 43 1 = some 1) ∧ ((structPl Try.prog 43 = some [(0, 1), (1, 1)]) ∧ (kindOf Try.prog 45 = some (some 4)))) ∧ ((sizeIn Try.prog 45 = some 4) ∧ ((zeroCells? Try.prog 45 = some [.d (.v (.int .i64 0)), .d (.v (.slice none 0 0)), .d (.v (.slice none 0 0)), .d (.v (.slice none 0 0))]) ∧ (fieldOff Try.prog 45 0 = some 0)))) ∧ (((fieldOff Try.prog 45 1 = some 2) ∧ ((fieldOff Try.prog 45 2 = some 3) ∧ (structPl Try.prog 45 = some [(0, 2), (2, 1), (3, 1)]))) ∧ (((Try.prog.underlying 9 = some (.string)) ∧ (Try.prog.underlying 3 = some (.int .i64))) ∧ ((Try.prog.underlying 5 = some (.int .u8)) ∧ (Try.prog.underlying 21 = some (.int .i32)))))))) :=
  ⟨⟨⟨⟨⟨ty_kind_int, ⟨ty_size_int, ty_zero_int⟩⟩, ⟨ty_kind_bool, ⟨ty_size_bool, ty_zero_bool⟩⟩⟩, ⟨⟨ty_kind_string, ⟨ty_size_string, ty_zero_string⟩⟩, ⟨ty_kind_uint8, ⟨ty_size_uint8, ty_zero_uint8⟩⟩⟩⟩, ⟨⟨⟨ty_kind_Lint, ⟨ty_size_Lint, ty_zero_Lint⟩⟩, ⟨ty_und_Lint, ⟨ty_el_Lint, ty_kind_LRelation⟩⟩⟩, ⟨⟨ty_size_LRelation, ⟨ty_zero_LRelation, ty_und_LRelation⟩⟩, ⟨⟨ty_el_LRelation, ty_kind_LRewritingStep⟩, ⟨ty_size_LRewritingStep, ty_zero_LRewritingStep⟩⟩⟩⟩⟩, ⟨⟨⟨⟨ty_und_LRewritingStep, ⟨ty_el_LRewritingStep, ty_kind_Relation⟩⟩, ⟨ty_size_Relation, ⟨ty_zero_Relation, ty_off_Relation_0⟩⟩⟩, ⟨⟨ty_off_Relation_1, ⟨ty_off_Relation_2, ty_pl_Relation⟩⟩, ⟨⟨ty_kind_Atom, ty_size_Atom⟩, ⟨ty_zero_Atom, ty_off_Atom_0⟩⟩⟩⟩, ⟨⟨⟨ty_off_Atom_1, ⟨ty_pl_Atom, ty_kind_RewritingStep⟩⟩, ⟨ty_size_RewritingStep, ⟨ty_zero_RewritingStep, ty_off_RewritingStep_0⟩⟩⟩, ⟨⟨ty_off_RewritingStep_1, ⟨ty_off_RewritingStep_2, ty_pl_RewritingStep⟩⟩, ⟨⟨ty_und_string, ty_und_int⟩, ⟨ty_und_uint8, ty_und_int32⟩⟩⟩⟩⟩⟩
end Go.Proofs.Ytlcogbmceanghaa.Ab


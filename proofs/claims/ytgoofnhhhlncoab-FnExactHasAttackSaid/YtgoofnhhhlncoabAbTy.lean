/- What the reckoning asks of the types. Written by gen/abty.py. -/
import Derived.Test.YtgoofnhhhlncoabAbTwo
import Derived.Test.YtgoofnhhhlncoabProg
open Go Go.Proofs Go.RowKit
namespace Go.Proofs.Ytgoofnhhhlncoab.Ab
set_option maxRecDepth 100000

theorem ty_kind_int : kindOf Try.prog 3 = some none := by kernel_rfl
theorem ty_size_int : sizeIn Try.prog 3 = some 1 := by kernel_rfl
theorem ty_zero_int : zeroCells? Try.prog 3 = some [.d (.v (.int .i64 0))] := by kernel_rfl
theorem ty_kind_bool : kindOf Try.prog 4 = some none := by kernel_rfl
theorem ty_size_bool : sizeIn Try.prog 4 = some 1 := by kernel_rfl
theorem ty_zero_bool : zeroCells? Try.prog 4 = some [.d (.v (.bool false))] := by kernel_rfl
theorem ty_kind_string : kindOf Try.prog 9 = some none := by kernel_rfl
theorem ty_size_string : sizeIn Try.prog 9 = some 1 := by kernel_rfl
theorem ty_zero_string : zeroCells? Try.prog 9 = some [.d (.v (.string ⟨#[]⟩))] := by kernel_rfl
theorem ty_kind_bitSet : kindOf Try.prog 79 = some none := by kernel_rfl
theorem ty_size_bitSet : sizeIn Try.prog 79 = some 1 := by kernel_rfl
theorem ty_zero_bitSet : zeroCells? Try.prog 79 = some [.d (.v (.int .u64 0))] := by kernel_rfl
theorem ty_kind_uint8 : kindOf Try.prog 5 = some none := by kernel_rfl
theorem ty_size_uint8 : sizeIn Try.prog 5 = some 1 := by kernel_rfl
theorem ty_zero_uint8 : zeroCells? Try.prog 5 = some [.d (.v (.int .u8 0))] := by kernel_rfl
theorem ty_kind_Lint : kindOf Try.prog 24 = some none := by kernel_rfl
theorem ty_size_Lint : sizeIn Try.prog 24 = some 1 := by kernel_rfl
theorem ty_zero_Lint : zeroCells? Try.prog 24 = some [.d (.v (.slice none 0 0))] := by kernel_rfl
theorem ty_und_Lint : Try.prog.underlying 24 = some (.slice 3) := by kernel_rfl
theorem ty_el_Lint : elOf Try.prog 24 = some (3, 1, 8) := by kernel_rfl
theorem ty_kind_LLint : kindOf Try.prog 51 = some none := by kernel_rfl
theorem ty_size_LLint : sizeIn Try.prog 51 = some 1 := by kernel_rfl
theorem ty_zero_LLint : zeroCells? Try.prog 51 = some [.d (.v (.slice none 0 0))] := by kernel_rfl
theorem ty_und_LLint : Try.prog.underlying 51 = some (.slice 24) := by kernel_rfl
theorem ty_el_LLint : elOf Try.prog 51 = some (24, 1, 24) := by kernel_rfl
theorem ty_kind_Lbool : kindOf Try.prog 103 = some none := by kernel_rfl
theorem ty_size_Lbool : sizeIn Try.prog 103 = some 1 := by kernel_rfl
theorem ty_zero_Lbool : zeroCells? Try.prog 103 = some [.d (.v (.slice none 0 0))] := by kernel_rfl
theorem ty_und_Lbool : Try.prog.underlying 103 = some (.slice 4) := by kernel_rfl
theorem ty_el_Lbool : elOf Try.prog 103 = some (4, 1, 1) := by kernel_rfl
theorem ty_kind_Luint8 : kindOf Try.prog 117 = some none := by kernel_rfl
theorem ty_size_Luint8 : sizeIn Try.prog 117 = some 1 := by kernel_rfl
theorem ty_zero_Luint8 : zeroCells? Try.prog 117 = some [.d (.v (.slice none 0 0))] := by kernel_rfl
theorem ty_und_Luint8 : Try.prog.underlying 117 = some (.slice 5) := by kernel_rfl
theorem ty_el_Luint8 : elOf Try.prog 117 = some (5, 1, 1) := by kernel_rfl
theorem ty_kind_LRelation : kindOf Try.prog 30 = some none := by kernel_rfl
theorem ty_size_LRelation : sizeIn Try.prog 30 = some 1 := by kernel_rfl
theorem ty_zero_LRelation : zeroCells? Try.prog 30 = some [.d (.v (.slice none 0 0))] := by kernel_rfl
theorem ty_und_LRelation : Try.prog.underlying 30 = some (.slice 73) := by kernel_rfl
theorem ty_el_LRelation : elOf Try.prog 30 = some (73, 3, 32) := by kernel_rfl
theorem ty_kind_LFact : kindOf Try.prog 53 = some none := by kernel_rfl
theorem ty_size_LFact : sizeIn Try.prog 53 = some 1 := by kernel_rfl
theorem ty_zero_LFact : zeroCells? Try.prog 53 = some [.d (.v (.slice none 0 0))] := by kernel_rfl
theorem ty_und_LFact : Try.prog.underlying 53 = some (.slice 122) := by kernel_rfl
theorem ty_el_LFact : elOf Try.prog 53 = some (122, 2, 32) := by kernel_rfl
theorem ty_kind_LAtom : kindOf Try.prog 32 = some none := by kernel_rfl
theorem ty_size_LAtom : sizeIn Try.prog 32 = some 1 := by kernel_rfl
theorem ty_zero_LAtom : zeroCells? Try.prog 32 = some [.d (.v (.slice none 0 0))] := by kernel_rfl
theorem ty_und_LAtom : Try.prog.underlying 32 = some (.slice 71) := by kernel_rfl
theorem ty_el_LAtom : elOf Try.prog 32 = some (71, 2, 32) := by kernel_rfl
theorem ty_kind_LatomShape : kindOf Try.prog 80 = some none := by kernel_rfl
theorem ty_size_LatomShape : sizeIn Try.prog 80 = some 1 := by kernel_rfl
theorem ty_zero_LatomShape : zeroCells? Try.prog 80 = some [.d (.v (.slice none 0 0))] := by kernel_rfl
theorem ty_und_LatomShape : Try.prog.underlying 80 = some (.slice 108) := by kernel_rfl
theorem ty_el_LatomShape : elOf Try.prog 80 = some (108, 2, 16) := by kernel_rfl
theorem ty_kind_Relation : kindOf Try.prog 73 = some (some 3) := by kernel_rfl
theorem ty_size_Relation : sizeIn Try.prog 73 = some 3 := by kernel_rfl
theorem ty_zero_Relation : zeroCells? Try.prog 73 = some [.d (.v (.string ⟨#[]⟩)), .d (.v (.int .i64 0)), .d (.v (.int .i64 0))] := by kernel_rfl
theorem ty_off_Relation_0 : fieldOff Try.prog 73 0 = some 0 := by kernel_rfl
theorem ty_off_Relation_1 : fieldOff Try.prog 73 1 = some 1 := by kernel_rfl
theorem ty_off_Relation_2 : fieldOff Try.prog 73 2 = some 2 := by kernel_rfl
theorem ty_pl_Relation : structPl Try.prog 73 = some [(0, 1), (1, 1), (2, 1)] := by kernel_rfl
theorem ty_kind_Fact : kindOf Try.prog 122 = some (some 2) := by kernel_rfl
theorem ty_size_Fact : sizeIn Try.prog 122 = some 2 := by kernel_rfl
theorem ty_zero_Fact : zeroCells? Try.prog 122 = some [.d (.v (.int .i64 0)), .d (.v (.slice none 0 0))] := by kernel_rfl
theorem ty_off_Fact_0 : fieldOff Try.prog 122 0 = some 0 := by kernel_rfl
theorem ty_off_Fact_1 : fieldOff Try.prog 122 1 = some 1 := by kernel_rfl
theorem ty_pl_Fact : structPl Try.prog 122 = some [(0, 1), (1, 1)] := by kernel_rfl
theorem ty_kind_Database : kindOf Try.prog 55 = some (some 2) := by kernel_rfl
theorem ty_size_Database : sizeIn Try.prog 55 = some 2 := by kernel_rfl
theorem ty_zero_Database : zeroCells? Try.prog 55 = some [.d (.v (.slice none 0 0)), .d (.v (.slice none 0 0))] := by kernel_rfl
theorem ty_off_Database_0 : fieldOff Try.prog 55 0 = some 0 := by kernel_rfl
theorem ty_off_Database_1 : fieldOff Try.prog 55 1 = some 1 := by kernel_rfl
theorem ty_pl_Database : structPl Try.prog 55 = some [(0, 1), (1, 1)] := by kernel_rfl
theorem ty_kind_Atom : kindOf Try.prog 71 = some (some 2) := by kernel_rfl
theorem ty_size_Atom : sizeIn Try.prog 71 = some 2 := by kernel_rfl
theorem ty_zero_Atom : zeroCells? Try.prog 71 = some [.d (.v (.int .i64 0)), .d (.v (.slice none 0 0))] := by kernel_rfl
theorem ty_off_Atom_0 : fieldOff Try.prog 71 0 = some 0 := by kernel_rfl
theorem ty_off_Atom_1 : fieldOff Try.prog 71 1 = some 1 := by kernel_rfl
theorem ty_pl_Atom : structPl Try.prog 71 = some [(0, 1), (1, 1)] := by kernel_rfl
theorem ty_kind_Query : kindOf Try.prog 34 = some (some 3) := by kernel_rfl
theorem ty_size_Query : sizeIn Try.prog 34 = some 3 := by kernel_rfl
theorem ty_zero_Query : zeroCells? Try.prog 34 = some [.d (.v (.int .i64 0)), .d (.v (.slice none 0 0)), .d (.v (.slice none 0 0))] := by kernel_rfl
theorem ty_off_Query_0 : fieldOff Try.prog 34 0 = some 0 := by kernel_rfl
theorem ty_off_Query_1 : fieldOff Try.prog 34 1 = some 1 := by kernel_rfl
theorem ty_off_Query_2 : fieldOff Try.prog 34 2 = some 2 := by kernel_rfl
theorem ty_pl_Query : structPl Try.prog 34 = some [(0, 1), (1, 1), (2, 1)] := by kernel_rfl
theorem ty_kind_queryShape : kindOf Try.prog 82 = some (some 2) := by kernel_rfl
theorem ty_size_queryShape : sizeIn Try.prog 82 = some 2 := by kernel_rfl
theorem ty_zero_queryShape : zeroCells? Try.prog 82 = some [.d (.v (.int .u64 0)), .d (.v (.slice none 0 0))] := by kernel_rfl
theorem ty_off_queryShape_0 : fieldOff Try.prog 82 0 = some 0 := by kernel_rfl
theorem ty_off_queryShape_1 : fieldOff Try.prog 82 1 = some 1 := by kernel_rfl
theorem ty_pl_queryShape : structPl Try.prog 82 = some [(0, 1), (1, 1)] := by kernel_rfl
theorem ty_kind_atomShape : kindOf Try.prog 108 = some (some 2) := by kernel_rfl
theorem ty_size_atomShape : sizeIn Try.prog 108 = some 2 := by kernel_rfl
theorem ty_zero_atomShape : zeroCells? Try.prog 108 = some [.d (.v (.int .u64 0)), .d (.v (.int .u64 0))] := by kernel_rfl
theorem ty_off_atomShape_0 : fieldOff Try.prog 108 0 = some 0 := by kernel_rfl
theorem ty_off_atomShape_1 : fieldOff Try.prog 108 1 = some 1 := by kernel_rfl
theorem ty_pl_atomShape : structPl Try.prog 108 = some [(0, 1), (1, 1)] := by kernel_rfl
theorem ty_mix : Try.prog.follows .mixedOrders = true := by kernel_rfl
theorem tyL : (((((((kindOf Try.prog 3 = some none) ∧ ((sizeIn Try.prog 3 = some 1) ∧ (zeroCells? Try.prog 3 = some [.d (.v (.int .i64 0))]))) ∧ ((kindOf Try.prog 4 = some none) ∧ ((sizeIn Try.prog 4 = some 1) ∧ (zeroCells? Try.prog 4 = some [.d (.v (.bool false))])))) ∧ (((kindOf Try.prog 9 = some none) ∧ ((sizeIn Try.prog 9 = some 1) ∧ (zeroCells? Try.prog 9 = some [.d (.v (.string ⟨#[]⟩))]))) ∧ ((kindOf Try.prog 79 = some none) ∧ ((sizeIn Try.prog 79 = some 1) ∧ (zeroCells? Try.prog 79 = some [.d (.v (.int .u64 0))]))))) ∧ ((((kindOf Try.prog 5 = some none) ∧ ((sizeIn Try.prog 5 = some 1) ∧ (zeroCells? Try.prog 5 = some [.d (.v (.int .u8 0))]))) ∧ ((kindOf Try.prog 24 = some none) ∧ ((sizeIn Try.prog 24 = some 1) ∧ (zeroCells? Try.prog 24 = some [.d (.v (.slice none 0 0))])))) ∧ (((Try.prog.underlying 24 = some (.slice 3)) ∧ ((elOf Try.prog 24 = some (3, 1, 8)) ∧ (kindOf Try.prog 51 = some none))) ∧ ((sizeIn Try.prog 51 = some 1) ∧ ((zeroCells? Try.prog 51 = some [.d (.v (.slice none 0 0))]) ∧ (Try.prog.underlying 51 = some (.slice 24))))))) ∧ (((((elOf Try.prog 51 = some (24, 1, 24)) ∧ ((kindOf Try.prog 103 = some none) ∧ (sizeIn Try.prog 103 = some 1))) ∧ ((zeroCells? Try.prog 103 = some [.d (.v (.slice none 0 0))]) ∧ ((Try.prog.underlying 103 = some (.slice 4)) ∧ (elOf Try.prog 103 = some (4, 1, 1))))) ∧ (((kindOf Try.prog 117 = some none) ∧ ((sizeIn Try.prog 117 = some 1) ∧ (zeroCells? Try.prog 117 = some [.d (.v (.slice none 0 0))]))) ∧ ((Try.prog.underlying 117 = some (.slice 5)) ∧ ((elOf Try.prog 117 = some (5, 1, 1)) ∧ (kindOf Try.prog 30 = some none))))) ∧ ((((sizeIn Try.prog 30 = some 1) ∧ ((zeroCells? Try.prog 30 = some [.d (.v (.slice none 0 0))]) ∧ (Try.prog.underlying 30 = some (.slice 73)))) ∧ ((elOf Try.prog 30 = some (73, 3, 32)) ∧ ((kindOf Try.prog 53 = some none) ∧ (sizeIn Try.prog 53 = some 1)))) ∧ (((zeroCells? Try.prog 53 = some [.d (.v (.slice none 0 0))]) ∧ ((Try.prog.underlying 53 = some (.slice 122)) ∧ (elOf Try.prog 53 = some (122, 2, 32)))) ∧ (((kindOf Try.prog 32 = some none) ∧ (sizeIn Try.prog 32 = some 1)) ∧ ((zeroCells? Try.prog 32 = some [.d (.v (.slice none 0 0))]) ∧ (Try.prog.underlying 32 = some (.slice 71)))))))) ∧ ((((((elOf Try.prog 32 = some (71, 2, 32)) ∧ ((kindOf Try.prog 80 = some none) ∧ (sizeIn Try.prog 80 = some 1))) ∧ ((zeroCells? Try.prog 80 = some [.d (.v (.slice none 0 0))]) ∧ ((Try.prog.underlying 80 = some (.slice 108)) ∧ (elOf Try.prog 80 = some (108, 2, 16))))) ∧ (((kindOf Try.prog 73 = some (some 3)) ∧ ((sizeIn Try.prog 73 = some 3) ∧ (zeroCells? Try.prog 73 = some [.d (.v (.string ⟨#[]⟩)), .d (.v (.int .i64 0)), .d (.v (.int .i64 0))]))) ∧ ((fieldOff Try.prog 73 0 = some 0) ∧ ((fieldOff Try.prog 73 1 = some 1) ∧ (fieldOff Try.prog 73 2 = some 2))))) ∧ ((((structPl Try.prog 73 = some [(0, 1), (1, 1), (2, 1)]) ∧ ((kindOf Try.prog 122 = some (some 2)) ∧ (sizeIn Try.prog 122 = some 2))) ∧ ((zeroCells? Try.prog 122 = some [.d (.v (.int .i64 0)), .d (.v (.slice none 0 0))]) ∧ ((fieldOff Try.prog 122 0 = some 0) ∧ (fieldOff Try.prog 122 1 = some 1)))) ∧ (((structPl Try.prog 122 = some [(0, 1), (1, 1)]) ∧ ((kindOf Try.prog 55 = some (some 2)) ∧ (sizeIn Try.prog 55 = some 2))) ∧ (((zeroCells? Try.prog 55 = some [.d (.v (.slice none 0 0)), .d (.v (.slice none 0 0))]) ∧ (fieldOff Try.prog 55 0 = some 0)) ∧ ((fieldOff Try.prog 55 1 = some 1) ∧ (structPl Try.prog 55 = some [(0, 1), (1, 1)])))))) ∧ (((((kindOf Try.prog 71 = some (some 2)) ∧ ((sizeIn Try.prog 71 = some 2) ∧ (zeroCells? Try.prog 71 = some [.d (.v (.int .i64 0)), .d (.v (.slice none 0 0))]))) ∧ ((fieldOff Try.prog 71 0 = some 0) ∧ ((fieldOff Try.prog 71 1 = some 1) ∧ (structPl Try.prog 71 = some [(0, 1), (1, 1)])))) ∧ (((kindOf Try.prog 34 = some (some 3)) ∧ ((sizeIn Try.prog 34 = some 3) ∧ (zeroCells? Try.prog 34 = some [.d (.v (.int .i64 0)), .d (.v (.slice none 0 0)), .d (.v (.slice none 0 0))]))) ∧ ((fieldOff Try.prog 34 0 = some 0) ∧ ((fieldOff Try.prog 34 1 = some 1) ∧ (fieldOff Try.prog 34 2 = some 2))))) ∧ ((((structPl Try.prog 34 = some [(0, 1), (1, 1), (2, 1)]) ∧ ((kindOf Try.prog 82 = some (some 2)) ∧ (sizeIn Try.prog 82 = some 2))) ∧ ((zeroCells? Try.prog 82 = some [.d (.v (.int .u64 0)), .d (.v (.slice none 0 0))]) ∧ ((fieldOff Try.prog 82 0 = some 0) ∧ (fieldOff Try.prog 82 1 = some 1)))) ∧ (((structPl Try.prog 82 = some [(0, 1), (1, 1)]) ∧ ((kindOf Try.prog 108 = some (some 2)) ∧ (sizeIn Try.prog 108 = some 2))) ∧ (((zeroCells? Try.prog 108 = some [.d (.v (.int .u64 0)), .d (.v (.int .u64 0))]) ∧ (fieldOff Try.prog 108 0 = some 0)) ∧ ((fieldOff Try.prog 108 1 = some 1) ∧ (structPl Try.prog 108 = some [(0, 1), (1, 1)])))))))) :=
  ⟨⟨⟨⟨⟨⟨ty_kind_int, ⟨ty_size_int, ty_zero_int⟩⟩, ⟨ty_kind_bool, ⟨ty_size_bool, ty_zero_bool⟩⟩⟩, ⟨⟨ty_kind_string, ⟨ty_size_string, ty_zero_string⟩⟩, ⟨ty_kind_bitSet, ⟨ty_size_bitSet, ty_zero_bitSet⟩⟩⟩⟩, ⟨⟨⟨ty_kind_uint8, ⟨ty_size_uint8, ty_zero_uint8⟩⟩, ⟨ty_kind_Lint, ⟨ty_size_Lint, ty_zero_Lint⟩⟩⟩, ⟨⟨ty_und_Lint, ⟨ty_el_Lint, ty_kind_LLint⟩⟩, ⟨ty_size_LLint, ⟨ty_zero_LLint, ty_und_LLint⟩⟩⟩⟩⟩, ⟨⟨⟨⟨ty_el_LLint, ⟨ty_kind_Lbool, ty_size_Lbool⟩⟩, ⟨ty_zero_Lbool, ⟨ty_und_Lbool, ty_el_Lbool⟩⟩⟩, ⟨⟨ty_kind_Luint8, ⟨ty_size_Luint8, ty_zero_Luint8⟩⟩, ⟨ty_und_Luint8, ⟨ty_el_Luint8, ty_kind_LRelation⟩⟩⟩⟩, ⟨⟨⟨ty_size_LRelation, ⟨ty_zero_LRelation, ty_und_LRelation⟩⟩, ⟨ty_el_LRelation, ⟨ty_kind_LFact, ty_size_LFact⟩⟩⟩, ⟨⟨ty_zero_LFact, ⟨ty_und_LFact, ty_el_LFact⟩⟩, ⟨⟨ty_kind_LAtom, ty_size_LAtom⟩, ⟨ty_zero_LAtom, ty_und_LAtom⟩⟩⟩⟩⟩⟩, ⟨⟨⟨⟨⟨ty_el_LAtom, ⟨ty_kind_LatomShape, ty_size_LatomShape⟩⟩, ⟨ty_zero_LatomShape, ⟨ty_und_LatomShape, ty_el_LatomShape⟩⟩⟩, ⟨⟨ty_kind_Relation, ⟨ty_size_Relation, ty_zero_Relation⟩⟩, ⟨ty_off_Relation_0, ⟨ty_off_Relation_1, ty_off_Relation_2⟩⟩⟩⟩, ⟨⟨⟨ty_pl_Relation, ⟨ty_kind_Fact, ty_size_Fact⟩⟩, ⟨ty_zero_Fact, ⟨ty_off_Fact_0, ty_off_Fact_1⟩⟩⟩, ⟨⟨ty_pl_Fact, ⟨ty_kind_Database, ty_size_Database⟩⟩, ⟨⟨ty_zero_Database, ty_off_Database_0⟩, ⟨ty_off_Database_1, ty_pl_Database⟩⟩⟩⟩⟩, ⟨⟨⟨⟨ty_kind_Atom, ⟨ty_size_Atom, ty_zero_Atom⟩⟩, ⟨ty_off_Atom_0, ⟨ty_off_Atom_1, ty_pl_Atom⟩⟩⟩, ⟨⟨ty_kind_Query, ⟨ty_size_Query, ty_zero_Query⟩⟩, ⟨ty_off_Query_0, ⟨ty_off_Query_1, ty_off_Query_2⟩⟩⟩⟩, ⟨⟨⟨ty_pl_Query, ⟨ty_kind_queryShape, ty_size_queryShape⟩⟩, ⟨ty_zero_queryShape, ⟨ty_off_queryShape_0, ty_off_queryShape_1⟩⟩⟩, ⟨⟨ty_pl_queryShape, ⟨ty_kind_atomShape, ty_size_atomShape⟩⟩, ⟨⟨ty_zero_atomShape, ty_off_atomShape_0⟩, ⟨ty_off_atomShape_1, ty_pl_atomShape⟩⟩⟩⟩⟩⟩⟩
end Go.Proofs.Ytgoofnhhhlncoab.Ab


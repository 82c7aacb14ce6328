/- What the reckoning asks of the types. Written by gen/abty.py. -/
import Derived.Test.YthkbmfpgdidfhaaDoorAbTwo
import Derived.Test.YthkbmfpgdidfhaaDoorProg
open Go Go.Proofs Go.RowKit
namespace Go.Proofs.YthkbmfpgdidfhaaDoor.Ab
set_option maxRecDepth 100000

theorem ty_kind_int : kindOf Tryd.prog 3 = some none := by kernel_rfl
theorem ty_size_int : sizeIn Tryd.prog 3 = some 1 := by kernel_rfl
theorem ty_zero_int : zeroCells? Tryd.prog 3 = some [.d (.v (.int .i64 0))] := by kernel_rfl
theorem ty_kind_bool : kindOf Tryd.prog 4 = some none := by kernel_rfl
theorem ty_size_bool : sizeIn Tryd.prog 4 = some 1 := by kernel_rfl
theorem ty_zero_bool : zeroCells? Tryd.prog 4 = some [.d (.v (.bool false))] := by kernel_rfl
theorem ty_kind_string : kindOf Tryd.prog 9 = some none := by kernel_rfl
theorem ty_size_string : sizeIn Tryd.prog 9 = some 1 := by kernel_rfl
theorem ty_zero_string : zeroCells? Tryd.prog 9 = some [.d (.v (.string ⟨#[]⟩))] := by kernel_rfl
theorem ty_kind_bitSet : kindOf Tryd.prog 164 = some none := by kernel_rfl
theorem ty_size_bitSet : sizeIn Tryd.prog 164 = some 1 := by kernel_rfl
theorem ty_zero_bitSet : zeroCells? Tryd.prog 164 = some [.d (.v (.int .u64 0))] := by kernel_rfl
theorem ty_kind_uint8 : kindOf Tryd.prog 5 = some none := by kernel_rfl
theorem ty_size_uint8 : sizeIn Tryd.prog 5 = some 1 := by kernel_rfl
theorem ty_zero_uint8 : zeroCells? Tryd.prog 5 = some [.d (.v (.int .u8 0))] := by kernel_rfl
theorem ty_kind_Lint : kindOf Tryd.prog 43 = some none := by kernel_rfl
theorem ty_size_Lint : sizeIn Tryd.prog 43 = some 1 := by kernel_rfl
theorem ty_zero_Lint : zeroCells? Tryd.prog 43 = some [.d (.v (.slice none 0 0))] := by kernel_rfl
theorem ty_und_Lint : Tryd.prog.underlying 43 = some (.slice 3) := by kernel_rfl
theorem ty_el_Lint : elOf Tryd.prog 43 = some (3, 1, 8) := by kernel_rfl
theorem ty_kind_LLint : kindOf Tryd.prog 65 = some none := by kernel_rfl
theorem ty_size_LLint : sizeIn Tryd.prog 65 = some 1 := by kernel_rfl
theorem ty_zero_LLint : zeroCells? Tryd.prog 65 = some [.d (.v (.slice none 0 0))] := by kernel_rfl
theorem ty_und_LLint : Tryd.prog.underlying 65 = some (.slice 43) := by kernel_rfl
theorem ty_el_LLint : elOf Tryd.prog 65 = some (43, 1, 24) := by kernel_rfl
theorem ty_kind_Lstring : kindOf Tryd.prog 123 = some none := by kernel_rfl
theorem ty_size_Lstring : sizeIn Tryd.prog 123 = some 1 := by kernel_rfl
theorem ty_zero_Lstring : zeroCells? Tryd.prog 123 = some [.d (.v (.slice none 0 0))] := by kernel_rfl
theorem ty_und_Lstring : Tryd.prog.underlying 123 = some (.slice 9) := by kernel_rfl
theorem ty_el_Lstring : elOf Tryd.prog 123 = some (9, 1, 16) := by kernel_rfl
theorem ty_kind_Luint8 : kindOf Tryd.prog 124 = some none := by kernel_rfl
theorem ty_size_Luint8 : sizeIn Tryd.prog 124 = some 1 := by kernel_rfl
theorem ty_zero_Luint8 : zeroCells? Tryd.prog 124 = some [.d (.v (.slice none 0 0))] := by kernel_rfl
theorem ty_und_Luint8 : Tryd.prog.underlying 124 = some (.slice 5) := by kernel_rfl
theorem ty_el_Luint8 : elOf Tryd.prog 124 = some (5, 1, 1) := by kernel_rfl
theorem ty_kind_LRelation : kindOf Tryd.prog 56 = some none := by kernel_rfl
theorem ty_size_LRelation : sizeIn Tryd.prog 56 = some 1 := by kernel_rfl
theorem ty_zero_LRelation : zeroCells? Tryd.prog 56 = some [.d (.v (.slice none 0 0))] := by kernel_rfl
theorem ty_und_LRelation : Tryd.prog.underlying 56 = some (.slice 26) := by kernel_rfl
theorem ty_el_LRelation : elOf Tryd.prog 56 = some (26, 3, 32) := by kernel_rfl
theorem ty_kind_LFact : kindOf Tryd.prog 57 = some none := by kernel_rfl
theorem ty_size_LFact : sizeIn Tryd.prog 57 = some 1 := by kernel_rfl
theorem ty_zero_LFact : zeroCells? Tryd.prog 57 = some [.d (.v (.slice none 0 0))] := by kernel_rfl
theorem ty_und_LFact : Tryd.prog.underlying 57 = some (.slice 86) := by kernel_rfl
theorem ty_el_LFact : elOf Tryd.prog 57 = some (86, 2, 32) := by kernel_rfl
theorem ty_kind_LGroupRange : kindOf Tryd.prog 76 = some none := by kernel_rfl
theorem ty_size_LGroupRange : sizeIn Tryd.prog 76 = some 1 := by kernel_rfl
theorem ty_zero_LGroupRange : zeroCells? Tryd.prog 76 = some [.d (.v (.slice none 0 0))] := by kernel_rfl
theorem ty_und_LGroupRange : Tryd.prog.underlying 76 = some (.slice 115) := by kernel_rfl
theorem ty_el_LGroupRange : elOf Tryd.prog 76 = some (115, 4, 32) := by kernel_rfl
theorem ty_kind_Relation : kindOf Tryd.prog 26 = some (some 3) := by kernel_rfl
theorem ty_size_Relation : sizeIn Tryd.prog 26 = some 3 := by kernel_rfl
theorem ty_zero_Relation : zeroCells? Tryd.prog 26 = some [.d (.v (.string ⟨#[]⟩)), .d (.v (.int .i64 0)), .d (.v (.int .i64 0))] := by kernel_rfl
theorem ty_off_Relation_0 : fieldOff Tryd.prog 26 0 = some 0 := by kernel_rfl
theorem ty_off_Relation_1 : fieldOff Tryd.prog 26 1 = some 1 := by kernel_rfl
theorem ty_off_Relation_2 : fieldOff Tryd.prog 26 2 = some 2 := by kernel_rfl
theorem ty_pl_Relation : structPl Tryd.prog 26 = some [(0, 1), (1, 1), (2, 1)] := by kernel_rfl
theorem ty_kind_Fact : kindOf Tryd.prog 86 = some (some 2) := by kernel_rfl
theorem ty_size_Fact : sizeIn Tryd.prog 86 = some 2 := by kernel_rfl
theorem ty_zero_Fact : zeroCells? Tryd.prog 86 = some [.d (.v (.int .i64 0)), .d (.v (.slice none 0 0))] := by kernel_rfl
theorem ty_off_Fact_0 : fieldOff Tryd.prog 86 0 = some 0 := by kernel_rfl
theorem ty_off_Fact_1 : fieldOff Tryd.prog 86 1 = some 1 := by kernel_rfl
theorem ty_pl_Fact : structPl Tryd.prog 86 = some [(0, 1), (1, 1)] := by kernel_rfl
theorem ty_kind_Database : kindOf Tryd.prog 59 = some (some 2) := by kernel_rfl
theorem ty_size_Database : sizeIn Tryd.prog 59 = some 2 := by kernel_rfl
theorem ty_zero_Database : zeroCells? Tryd.prog 59 = some [.d (.v (.slice none 0 0)), .d (.v (.slice none 0 0))] := by kernel_rfl
theorem ty_off_Database_0 : fieldOff Tryd.prog 59 0 = some 0 := by kernel_rfl
theorem ty_off_Database_1 : fieldOff Tryd.prog 59 1 = some 1 := by kernel_rfl
theorem ty_pl_Database : structPl Tryd.prog 59 = some [(0, 1), (1, 1)] := by kernel_rfl
theorem ty_kind_DenialConstraint : kindOf Tryd.prog 61 = some (some 7) := by kernel_rfl
theorem ty_size_DenialConstraint : sizeIn Tryd.prog 61 = some 7 := by kernel_rfl
theorem ty_zero_DenialConstraint : zeroCells? Tryd.prog 61 = some [.d (.v (.int .i64 0)), .d (.v (.int .i64 0)), .d (.v (.int .i64 0)), .d (.v (.int .i64 0)), .d (.v (.int .i64 0)), .d (.v (.int .i64 0)), .d (.v (.int .i64 0))] := by kernel_rfl
theorem ty_off_DenialConstraint_0 : fieldOff Tryd.prog 61 0 = some 0 := by kernel_rfl
theorem ty_off_DenialConstraint_1 : fieldOff Tryd.prog 61 1 = some 1 := by kernel_rfl
theorem ty_off_DenialConstraint_2 : fieldOff Tryd.prog 61 2 = some 2 := by kernel_rfl
theorem ty_off_DenialConstraint_3 : fieldOff Tryd.prog 61 3 = some 3 := by kernel_rfl
theorem ty_off_DenialConstraint_4 : fieldOff Tryd.prog 61 4 = some 4 := by kernel_rfl
theorem ty_off_DenialConstraint_5 : fieldOff Tryd.prog 61 5 = some 5 := by kernel_rfl
theorem ty_off_DenialConstraint_6 : fieldOff Tryd.prog 61 6 = some 6 := by kernel_rfl
theorem ty_pl_DenialConstraint : structPl Tryd.prog 61 = some [(0, 1), (1, 1), (2, 1), (3, 1), (4, 1), (5, 1), (6, 1)] := by kernel_rfl
theorem ty_kind_Fraction : kindOf Tryd.prog 40 = some (some 2) := by kernel_rfl
theorem ty_size_Fraction : sizeIn Tryd.prog 40 = some 2 := by kernel_rfl
theorem ty_zero_Fraction : zeroCells? Tryd.prog 40 = some [.d (.v (.int .i64 0)), .d (.v (.int .i64 0))] := by kernel_rfl
theorem ty_off_Fraction_0 : fieldOff Tryd.prog 40 0 = some 0 := by kernel_rfl
theorem ty_off_Fraction_1 : fieldOff Tryd.prog 40 1 = some 1 := by kernel_rfl
theorem ty_pl_Fraction : structPl Tryd.prog 40 = some [(0, 1), (1, 1)] := by kernel_rfl
theorem ty_kind_GroupRange : kindOf Tryd.prog 115 = some (some 4) := by kernel_rfl
theorem ty_size_GroupRange : sizeIn Tryd.prog 115 = some 4 := by kernel_rfl
theorem ty_zero_GroupRange : zeroCells? Tryd.prog 115 = some [.d (.v (.int .i64 0)), .d (.v (.int .i64 0)), .d (.v (.int .i64 0)), .d (.v (.bool false))] := by kernel_rfl
theorem ty_off_GroupRange_0 : fieldOff Tryd.prog 115 0 = some 0 := by kernel_rfl
theorem ty_off_GroupRange_1 : fieldOff Tryd.prog 115 1 = some 1 := by kernel_rfl
theorem ty_off_GroupRange_2 : fieldOff Tryd.prog 115 2 = some 2 := by kernel_rfl
theorem ty_off_GroupRange_3 : fieldOff Tryd.prog 115 3 = some 3 := by kernel_rfl
theorem ty_pl_GroupRange : structPl Tryd.prog 115 = some [(0, 1), (1, 1), (2, 1), (3, 1)] := by kernel_rfl
theorem ty_kind_Edit : kindOf Tryd.prog 96 = some (some 3) := by kernel_rfl
theorem ty_size_Edit : sizeIn Tryd.prog 96 = some 3 := by kernel_rfl
theorem ty_zero_Edit : zeroCells? Tryd.prog 96 = some [.d (.v (.int .i64 0)), .d (.v (.int .i64 0)), .d (.v (.slice none 0 0))] := by kernel_rfl
theorem ty_off_Edit_0 : fieldOff Tryd.prog 96 0 = some 0 := by kernel_rfl
theorem ty_off_Edit_1 : fieldOff Tryd.prog 96 1 = some 1 := by kernel_rfl
theorem ty_pl_Edit : structPl Tryd.prog 96 = some [(0, 1), (1, 2)] := by kernel_rfl
theorem ty_und_string : Tryd.prog.underlying 9 = some (.string) := by kernel_rfl
theorem ty_und_int : Tryd.prog.underlying 3 = some (.int .i64) := by kernel_rfl
theorem ty_und_uint8 : Tryd.prog.underlying 5 = some (.int .u8) := by kernel_rfl
theorem ty_und_int32 : Tryd.prog.underlying 21 = some (.int .i32) := by kernel_rfl
theorem ty_mix : Tryd.prog.follows .mixedOrders = true := by kernel_rfl
theorem tyL : (((((((kindOf Tryd.prog 3 = some none) ∧ ((sizeIn Tryd.prog 3 = some 1) ∧ (zeroCells? Tryd.prog 3 = some [.d (.v (.int .i64 0))]))) ∧ ((kindOf Tryd.prog 4 = some none) ∧ ((sizeIn Tryd.prog 4 = some 1) ∧ (zeroCells? Tryd.prog 4 = some [.d (.v (.bool false))])))) ∧ (((kindOf Tryd.prog 9 = some none) ∧ ((sizeIn Tryd.prog 9 = some 1) ∧ (zeroCells? Tryd.prog 9 = some [.d (.v (.string ⟨#[]⟩))]))) ∧ (((kindOf Tryd.prog 164 = some none) ∧ (sizeIn Tryd.prog 164 = some 1)) ∧ ((zeroCells? Tryd.prog 164 = some [.d (.v (.int .u64 0))]) ∧ (kindOf Tryd.prog 5 = some none))))) ∧ ((((sizeIn Tryd.prog 5 = some 1) ∧ ((zeroCells? Tryd.prog 5 = some [.d (.v (.int .u8 0))]) ∧ (kindOf Tryd.prog 43 = some none))) ∧ ((sizeIn Tryd.prog 43 = some 1) ∧ ((zeroCells? Tryd.prog 43 = some [.d (.v (.slice none 0 0))]) ∧ (Tryd.prog.underlying 43 = some (.slice 3))))) ∧ (((elOf Tryd.prog 43 = some (3, 1, 8)) ∧ ((kindOf Tryd.prog 65 = some none) ∧ (sizeIn Tryd.prog 65 = some 1))) ∧ (((zeroCells? Tryd.prog 65 = some [.d (.v (.slice none 0 0))]) ∧ (Tryd.prog.underlying 65 = some (.slice 43))) ∧ ((elOf Tryd.prog 65 = some (43, 1, 24)) ∧ (kindOf Tryd.prog 123 = some none)))))) ∧ (((((sizeIn Tryd.prog 123 = some 1) ∧ ((zeroCells? Tryd.prog 123 = some [.d (.v (.slice none 0 0))]) ∧ (Tryd.prog.underlying 123 = some (.slice 9)))) ∧ ((elOf Tryd.prog 123 = some (9, 1, 16)) ∧ ((kindOf Tryd.prog 124 = some none) ∧ (sizeIn Tryd.prog 124 = some 1)))) ∧ (((zeroCells? Tryd.prog 124 = some [.d (.v (.slice none 0 0))]) ∧ ((Tryd.prog.underlying 124 = some (.slice 5)) ∧ (elOf Tryd.prog 124 = some (5, 1, 1)))) ∧ (((kindOf Tryd.prog 56 = some none) ∧ (sizeIn Tryd.prog 56 = some 1)) ∧ ((zeroCells? Tryd.prog 56 = some [.d (.v (.slice none 0 0))]) ∧ (Tryd.prog.underlying 56 = some (.slice 26)))))) ∧ ((((elOf Tryd.prog 56 = some (26, 3, 32)) ∧ ((kindOf Tryd.prog 57 = some none) ∧ (sizeIn Tryd.prog 57 = some 1))) ∧ ((zeroCells? Tryd.prog 57 = some [.d (.v (.slice none 0 0))]) ∧ ((Tryd.prog.underlying 57 = some (.slice 86)) ∧ (elOf Tryd.prog 57 = some (86, 2, 32))))) ∧ (((kindOf Tryd.prog 76 = some none) ∧ ((sizeIn Tryd.prog 76 = some 1) ∧ (zeroCells? Tryd.prog 76 = some [.d (.v (.slice none 0 0))]))) ∧ (((Tryd.prog.underlying 76 = some (.slice 115)) ∧ (elOf Tryd.prog 76 = some (115, 4, 32))) ∧ ((kindOf Tryd.prog 26 = some (some 3)) ∧ (sizeIn Tryd.prog 26 = some 3))))))) ∧ ((((((zeroCells? Tryd.prog 26 = some [.d (.v (.string ⟨#[]⟩)), .d (.v (.int .i64 0)), .d (.v (.int .i64 0))]) ∧ ((fieldOff Tryd.prog 26 0 = some 0) ∧ (fieldOff Tryd.prog 26 1 = some 1))) ∧ ((fieldOff Tryd.prog 26 2 = some 2) ∧ ((structPl Tryd.prog 26 = some [(0, 1), (1, 1), (2, 1)]) ∧ (kindOf Tryd.prog 86 = some (some 2))))) ∧ (((sizeIn Tryd.prog 86 = some 2) ∧ ((zeroCells? Tryd.prog 86 = some [.d (.v (.int .i64 0)), .d (.v (.slice none 0 0))]) ∧ (fieldOff Tryd.prog 86 0 = some 0))) ∧ (((fieldOff Tryd.prog 86 1 = some 1) ∧ (structPl Tryd.prog 86 = some [(0, 1), (1, 1)])) ∧ ((kindOf Tryd.prog 59 = some (some 2)) ∧ (sizeIn Tryd.prog 59 = some 2))))) ∧ ((((zeroCells? Tryd.prog 59 = some [.d (.v (.slice none 0 0)), .d (.v (.slice none 0 0))]) ∧ ((fieldOff Tryd.prog 59 0 = some 0) ∧ (fieldOff Tryd.prog 59 1 = some 1))) ∧ ((structPl Tryd.prog 59 = some [(0, 1), (1, 1)]) ∧ ((kindOf Tryd.prog 61 = some (some 7)) ∧ (sizeIn Tryd.prog 61 = some 7)))) ∧ (((zeroCells? Tryd.prog 61 = some [.d (.v (.int .i64 0)), .d (.v (.int .i64 0)), .d (.v (.int .i64 0)), .d (.v (.int .i64 0)), .d (.v (.int .i64 0)), .d (.v (.int .i64 0)), .d (.v (.int .i64 0))]) ∧ ((fieldOff Tryd.prog 61 0 = some 0) ∧ (fieldOff Tryd.prog 61 1 = some 1))) ∧ (((fieldOff Tryd.prog 61 2 = some 2) ∧ (fieldOff Tryd.prog 61 3 = some 3)) ∧ ((fieldOff Tryd.prog 61 4 = some 4) ∧ (fieldOff Tryd.prog 61 5 = some 5)))))) ∧ (((((fieldOff Tryd.prog 61 6 = some 6) ∧ ((structPl Tryd.prog 61 = some [(0, 1), (1, 1), (2, 1), (3, 1), (4, 1), (5, 1), (6, 1)]) ∧ (kindOf Tryd.prog 40 = some (some 2)))) ∧ ((sizeIn Tryd.prog 40 = some 2) ∧ ((zeroCells? Tryd.prog 40 = some [.d (.v (.int .i64 0)), .d (.v (.int .i64 0))]) ∧ (fieldOff Tryd.prog 40 0 = some 0)))) ∧ (((fieldOff Tryd.prog 40 1 = some 1) ∧ ((structPl Tryd.prog 40 = some [(0, 1), (1, 1)]) ∧ (kindOf Tryd.prog 115 = some (some 4)))) ∧ (((sizeIn Tryd.prog 115 = some 4) ∧ (zeroCells? Tryd.prog 115 = some [.d (.v (.int .i64 0)), .d (.v (.int .i64 0)), .d (.v (.int .i64 0)), .d (.v (.bool false))])) ∧ ((fieldOff Tryd.prog 115 0 = some 0) ∧ (fieldOff Tryd.prog 115 1 = some 1))))) ∧ ((((fieldOff Tryd.prog 115 2 = some 2) ∧ ((fieldOff Tryd.prog 115 3 = some 3) ∧ (structPl Tryd.prog 115 = some [(0, 1), (1, 1), (2, 1), (3, 1)]))) ∧ ((kindOf Tryd.prog 96 = some (some 3)) ∧ ((sizeIn Tryd.prog 96 = some 3) ∧ (zeroCells? Tryd.prog 96 = some [.d (.v (.int .i64 0)), .d (.v (.int .i64 0)), .d (.v (.slice none 0 0))])))) ∧ (((fieldOff Tryd.prog 96 0 = some 0) ∧ ((fieldOff Tryd.prog 96 1 = some 1) ∧ (structPl Tryd.prog 96 = some [(0, 1), (1, 2)]))) ∧ (((Tryd.prog.underlying 9 = some (.string)) ∧ (Tryd.prog.underlying 3 = some (.int .i64))) ∧ ((Tryd.prog.underlying 5 = some (.int .u8)) ∧ (Tryd.prog.underlying 21 = some (.int .i32))))))))) :=
  ⟨⟨⟨⟨⟨⟨ty_kind_int, ⟨ty_size_int, ty_zero_int⟩⟩, ⟨ty_kind_bool, ⟨ty_size_bool, ty_zero_bool⟩⟩⟩, ⟨⟨ty_kind_string, ⟨ty_size_string, ty_zero_string⟩⟩, ⟨⟨ty_kind_bitSet, ty_size_bitSet⟩, ⟨ty_zero_bitSet, ty_kind_uint8⟩⟩⟩⟩, ⟨⟨⟨ty_size_uint8, ⟨ty_zero_uint8, ty_kind_Lint⟩⟩, ⟨ty_size_Lint, ⟨ty_zero_Lint, ty_und_Lint⟩⟩⟩, ⟨⟨ty_el_Lint, ⟨ty_kind_LLint, ty_size_LLint⟩⟩, ⟨⟨ty_zero_LLint, ty_und_LLint⟩, ⟨ty_el_LLint, ty_kind_Lstring⟩⟩⟩⟩⟩, ⟨⟨⟨⟨ty_size_Lstring, ⟨ty_zero_Lstring, ty_und_Lstring⟩⟩, ⟨ty_el_Lstring, ⟨ty_kind_Luint8, ty_size_Luint8⟩⟩⟩, ⟨⟨ty_zero_Luint8, ⟨ty_und_Luint8, ty_el_Luint8⟩⟩, ⟨⟨ty_kind_LRelation, ty_size_LRelation⟩, ⟨ty_zero_LRelation, ty_und_LRelation⟩⟩⟩⟩, ⟨⟨⟨ty_el_LRelation, ⟨ty_kind_LFact, ty_size_LFact⟩⟩, ⟨ty_zero_LFact, ⟨ty_und_LFact, ty_el_LFact⟩⟩⟩, ⟨⟨ty_kind_LGroupRange, ⟨ty_size_LGroupRange, ty_zero_LGroupRange⟩⟩, ⟨⟨ty_und_LGroupRange, ty_el_LGroupRange⟩, ⟨ty_kind_Relation, ty_size_Relation⟩⟩⟩⟩⟩⟩, ⟨⟨⟨⟨⟨ty_zero_Relation, ⟨ty_off_Relation_0, ty_off_Relation_1⟩⟩, ⟨ty_off_Relation_2, ⟨ty_pl_Relation, ty_kind_Fact⟩⟩⟩, ⟨⟨ty_size_Fact, ⟨ty_zero_Fact, ty_off_Fact_0⟩⟩, ⟨⟨ty_off_Fact_1, ty_pl_Fact⟩, ⟨ty_kind_Database, ty_size_Database⟩⟩⟩⟩, ⟨⟨⟨ty_zero_Database, ⟨ty_off_Database_0, ty_off_Database_1⟩⟩, ⟨ty_pl_Database, ⟨ty_kind_DenialConstraint, ty_size_DenialConstraint⟩⟩⟩, ⟨⟨ty_zero_DenialConstraint, ⟨ty_off_DenialConstraint_0, ty_off_DenialConstraint_1⟩⟩, ⟨⟨ty_off_DenialConstraint_2, ty_off_DenialConstraint_3⟩, ⟨ty_off_DenialConstraint_4, ty_off_DenialConstraint_5⟩⟩⟩⟩⟩, ⟨⟨⟨⟨ty_off_DenialConstraint_6, ⟨ty_pl_DenialConstraint, ty_kind_Fraction⟩⟩, ⟨ty_size_Fraction, ⟨ty_zero_Fraction, ty_off_Fraction_0⟩⟩⟩, ⟨⟨ty_off_Fraction_1, ⟨ty_pl_Fraction, ty_kind_GroupRange⟩⟩, ⟨⟨ty_size_GroupRange, ty_zero_GroupRange⟩, ⟨ty_off_GroupRange_0, ty_off_GroupRange_1⟩⟩⟩⟩, ⟨⟨⟨ty_off_GroupRange_2, ⟨ty_off_GroupRange_3, ty_pl_GroupRange⟩⟩, ⟨ty_kind_Edit, ⟨ty_size_Edit, ty_zero_Edit⟩⟩⟩, ⟨⟨ty_off_Edit_0, ⟨ty_off_Edit_1, ty_pl_Edit⟩⟩, ⟨⟨ty_und_string, ty_und_int⟩, ⟨ty_und_uint8, ty_und_int32⟩⟩⟩⟩⟩⟩⟩
end Go.Proofs.YthkbmfpgdidfhaaDoor.Ab


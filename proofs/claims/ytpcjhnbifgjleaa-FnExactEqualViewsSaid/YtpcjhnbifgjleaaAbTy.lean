/- What the reckoning asks of the types. Written by gen/abty.py. -/
import Derived.Test.YtpcjhnbifgjleaaAbTwo
import Derived.Test.YtpcjhnbifgjleaaProg
open Go Go.Proofs Go.RowKit
namespace Go.Proofs.Ytpcjhnbifgjleaa.Ab
set_option maxRecDepth 100000

theorem ty_kind_int : kindOf Try.prog 3 = some none := by kernel_rfl
theorem ty_size_int : sizeIn Try.prog 3 = some 1 := by kernel_rfl
theorem ty_zero_int : zeroCells? Try.prog 3 = some [.d (.v (.int .i64 0))] := by kernel_rfl
theorem ty_kind_bool : kindOf Try.prog 4 = some none := by kernel_rfl
theorem ty_size_bool : sizeIn Try.prog 4 = some 1 := by kernel_rfl
theorem ty_zero_bool : zeroCells? Try.prog 4 = some [.d (.v (.bool false))] := by kernel_rfl
theorem ty_kind_string : kindOf Try.prog 9 = some none := by kernel_rfl
theorem ty_size_string : sizeIn Try.prog 9 = some 1 := by kernel_rfl
theorem ty_zero_string : zeroCells? Try.prog 9 = some [.d (.v (.string ⟨#[]⟩))] := by kernel_rfl
theorem ty_kind_uint8 : kindOf Try.prog 5 = some none := by kernel_rfl
theorem ty_size_uint8 : sizeIn Try.prog 5 = some 1 := by kernel_rfl
theorem ty_zero_uint8 : zeroCells? Try.prog 5 = some [.d (.v (.int .u8 0))] := by kernel_rfl
theorem ty_kind_Lint : kindOf Try.prog 27 = some none := by kernel_rfl
theorem ty_size_Lint : sizeIn Try.prog 27 = some 1 := by kernel_rfl
theorem ty_zero_Lint : zeroCells? Try.prog 27 = some [.d (.v (.slice none 0 0))] := by kernel_rfl
theorem ty_und_Lint : Try.prog.underlying 27 = some (.slice 3) := by kernel_rfl
theorem ty_el_Lint : elOf Try.prog 27 = some (3, 1, 8) := by kernel_rfl
theorem ty_kind_LLint : kindOf Try.prog 30 = some none := by kernel_rfl
theorem ty_size_LLint : sizeIn Try.prog 30 = some 1 := by kernel_rfl
theorem ty_zero_LLint : zeroCells? Try.prog 30 = some [.d (.v (.slice none 0 0))] := by kernel_rfl
theorem ty_und_LLint : Try.prog.underlying 30 = some (.slice 27) := by kernel_rfl
theorem ty_el_LLint : elOf Try.prog 30 = some (27, 1, 24) := by kernel_rfl
theorem ty_kind_LRelation : kindOf Try.prog 35 = some none := by kernel_rfl
theorem ty_size_LRelation : sizeIn Try.prog 35 = some 1 := by kernel_rfl
theorem ty_zero_LRelation : zeroCells? Try.prog 35 = some [.d (.v (.slice none 0 0))] := by kernel_rfl
theorem ty_und_LRelation : Try.prog.underlying 35 = some (.slice 60) := by kernel_rfl
theorem ty_el_LRelation : elOf Try.prog 35 = some (60, 3, 32) := by kernel_rfl
theorem ty_kind_LFact : kindOf Try.prog 36 = some none := by kernel_rfl
theorem ty_size_LFact : sizeIn Try.prog 36 = some 1 := by kernel_rfl
theorem ty_zero_LFact : zeroCells? Try.prog 36 = some [.d (.v (.slice none 0 0))] := by kernel_rfl
theorem ty_und_LFact : Try.prog.underlying 36 = some (.slice 63) := by kernel_rfl
theorem ty_el_LFact : elOf Try.prog 36 = some (63, 2, 32) := by kernel_rfl
theorem ty_kind_LAtom : kindOf Try.prog 39 = some none := by kernel_rfl
theorem ty_size_LAtom : sizeIn Try.prog 39 = some 1 := by kernel_rfl
theorem ty_zero_LAtom : zeroCells? Try.prog 39 = some [.d (.v (.slice none 0 0))] := by kernel_rfl
theorem ty_und_LAtom : Try.prog.underlying 39 = some (.slice 66) := by kernel_rfl
theorem ty_el_LAtom : elOf Try.prog 39 = some (66, 2, 32) := by kernel_rfl
theorem ty_kind_Relation : kindOf Try.prog 60 = some (some 3) := by kernel_rfl
theorem ty_size_Relation : sizeIn Try.prog 60 = some 3 := by kernel_rfl
theorem ty_zero_Relation : zeroCells? Try.prog 60 = some [.d (.v (.string ⟨#[]⟩)), .d (.v (.int .i64 0)), .d (.v (.int .i64 0))] := by kernel_rfl
theorem ty_off_Relation_0 : fieldOff Try.prog 60 0 = some 0 := by kernel_rfl
theorem ty_off_Relation_1 : fieldOff Try.prog 60 1 = some 1 := by kernel_rfl
theorem ty_off_Relation_2 : fieldOff Try.prog 60 2 = some 2 := by kernel_rfl
theorem ty_pl_Relation : structPl Try.prog 60 = some [(0, 1), (1, 1), (2, 1)] := by kernel_rfl
theorem ty_kind_Fact : kindOf Try.prog 63 = some (some 2) := by kernel_rfl
theorem ty_size_Fact : sizeIn Try.prog 63 = some 2 := by kernel_rfl
theorem ty_zero_Fact : zeroCells? Try.prog 63 = some [.d (.v (.int .i64 0)), .d (.v (.slice none 0 0))] := by kernel_rfl
theorem ty_off_Fact_0 : fieldOff Try.prog 63 0 = some 0 := by kernel_rfl
theorem ty_off_Fact_1 : fieldOff Try.prog 63 1 = some 1 := by kernel_rfl
theorem ty_pl_Fact : structPl Try.prog 63 = some [(0, 1), (1, 1)] := by kernel_rfl
theorem ty_kind_Database : kindOf Try.prog 38 = some (some 2) := by kernel_rfl
theorem ty_size_Database : sizeIn Try.prog 38 = some 2 := by kernel_rfl
theorem ty_zero_Database : zeroCells? Try.prog 38 = some [.d (.v (.slice none 0 0)), .d (.v (.slice none 0 0))] := by kernel_rfl
theorem ty_off_Database_0 : fieldOff Try.prog 38 0 = some 0 := by kernel_rfl
theorem ty_off_Database_1 : fieldOff Try.prog 38 1 = some 1 := by kernel_rfl
theorem ty_pl_Database : structPl Try.prog 38 = some [(0, 1), (1, 1)] := by kernel_rfl
theorem ty_kind_Atom : kindOf Try.prog 66 = some (some 2) := by kernel_rfl
theorem ty_size_Atom : sizeIn Try.prog 66 = some 2 := by kernel_rfl
theorem ty_zero_Atom : zeroCells? Try.prog 66 = some [.d (.v (.int .i64 0)), .d (.v (.slice none 0 0))] := by kernel_rfl
theorem ty_off_Atom_0 : fieldOff Try.prog 66 0 = some 0 := by kernel_rfl
theorem ty_off_Atom_1 : fieldOff Try.prog 66 1 = some 1 := by kernel_rfl
theorem ty_pl_Atom : structPl Try.prog 66 = some [(0, 1), (1, 1)] := by kernel_rfl
theorem ty_kind_Query : kindOf Try.prog 41 = some (some 3) := by kernel_rfl
theorem ty_size_Query : sizeIn Try.prog 41 = some 3 := by kernel_rfl
theorem ty_zero_Query : zeroCells? Try.prog 41 = some [.d (.v (.int .i64 0)), .d (.v (.slice none 0 0)), .d (.v (.slice none 0 0))] := by kernel_rfl
theorem ty_off_Query_0 : fieldOff Try.prog 41 0 = some 0 := by kernel_rfl
theorem ty_off_Query_1 : fieldOff Try.prog 41 1 = some 1 := by kernel_rfl
theorem ty_off_Query_2 : fieldOff Try.prog 41 2 = some 2 := by kernel_rfl
theorem ty_pl_Query : structPl Try.prog 41 = some [(0, 1), (1, 1), (2, 1)] := by kernel_rfl
theorem ty_kind_View : kindOf Try.prog 43 = some (some 7) := by kernel_rfl
theorem ty_size_View : sizeIn Try.prog 43 = some 7 := by kernel_rfl
theorem ty_zero_View : zeroCells? Try.prog 43 = some [.d (.v (.slice none 0 0)), .d (.v (.slice none 0 0)), .d (.v (.int .i64 0)), .d (.v (.slice none 0 0)), .d (.v (.slice none 0 0)), .d (.v (.slice none 0 0)), .d (.v (.slice none 0 0))] := by kernel_rfl
theorem ty_off_View_0 : fieldOff Try.prog 43 0 = some 0 := by kernel_rfl
theorem ty_off_View_1 : fieldOff Try.prog 43 1 = some 2 := by kernel_rfl
theorem ty_off_View_2 : fieldOff Try.prog 43 2 = some 5 := by kernel_rfl
theorem ty_off_View_3 : fieldOff Try.prog 43 3 = some 6 := by kernel_rfl
theorem ty_pl_View : structPl Try.prog 43 = some [(0, 2), (2, 3), (5, 1), (6, 1)] := by kernel_rfl
theorem ty_und_string : Try.prog.underlying 9 = some (.string) := by kernel_rfl
theorem ty_und_int : Try.prog.underlying 3 = some (.int .i64) := by kernel_rfl
theorem ty_und_uint8 : Try.prog.underlying 5 = some (.int .u8) := by kernel_rfl
theorem ty_und_int32 : Try.prog.underlying 21 = some (.int .i32) := by kernel_rfl
theorem ty_mix : Try.prog.follows .mixedOrders = true := by kernel_rfl
theorem tyL : (((((((kindOf Try.prog 3 = some none) ∧ (sizeIn Try.prog 3 = some 1)) ∧ ((zeroCells? Try.prog 3 = some [.d (.v (.int .i64 0))]) ∧ ((kindOf Try.prog 4 = some none) ∧ (sizeIn Try.prog 4 = some 1)))) ∧ (((zeroCells? Try.prog 4 = some [.d (.v (.bool false))]) ∧ (kindOf Try.prog 9 = some none)) ∧ ((sizeIn Try.prog 9 = some 1) ∧ ((zeroCells? Try.prog 9 = some [.d (.v (.string ⟨#[]⟩))]) ∧ (kindOf Try.prog 5 = some none))))) ∧ ((((sizeIn Try.prog 5 = some 1) ∧ (zeroCells? Try.prog 5 = some [.d (.v (.int .u8 0))])) ∧ ((kindOf Try.prog 27 = some none) ∧ ((sizeIn Try.prog 27 = some 1) ∧ (zeroCells? Try.prog 27 = some [.d (.v (.slice none 0 0))])))) ∧ (((Try.prog.underlying 27 = some (.slice 3)) ∧ (elOf Try.prog 27 = some (3, 1, 8))) ∧ ((kindOf Try.prog 30 = some none) ∧ ((sizeIn Try.prog 30 = some 1) ∧ (zeroCells? Try.prog 30 = some [.d (.v (.slice none 0 0))])))))) ∧ (((((Try.prog.underlying 30 = some (.slice 27)) ∧ (elOf Try.prog 30 = some (27, 1, 24))) ∧ ((kindOf Try.prog 35 = some none) ∧ ((sizeIn Try.prog 35 = some 1) ∧ (zeroCells? Try.prog 35 = some [.d (.v (.slice none 0 0))])))) ∧ (((Try.prog.underlying 35 = some (.slice 60)) ∧ (elOf Try.prog 35 = some (60, 3, 32))) ∧ ((kindOf Try.prog 36 = some none) ∧ ((sizeIn Try.prog 36 = some 1) ∧ (zeroCells? Try.prog 36 = some [.d (.v (.slice none 0 0))]))))) ∧ ((((Try.prog.underlying 36 = some (.slice 63)) ∧ (elOf Try.prog 36 = some (63, 2, 32))) ∧ ((kindOf Try.prog 39 = some none) ∧ ((sizeIn Try.prog 39 = some 1) ∧ (zeroCells? Try.prog 39 = some [.d (.v (.slice none 0 0))])))) ∧ (((Try.prog.underlying 39 = some (.slice 66)) ∧ (elOf Try.prog 39 = some (66, 2, 32))) ∧ ((kindOf Try.prog 60 = some (some 3)) ∧ ((sizeIn Try.prog 60 = some 3) ∧ (zeroCells? Try.prog 60 = some [.d (.v (.string ⟨#[]⟩)), .d (.v (.int .i64 0)), .d (.v (.int .i64 0))]))))))) ∧ ((((((fieldOff Try.prog 60 0 = some 0) ∧ (fieldOff Try.prog 60 1 = some 1)) ∧ ((fieldOff Try.prog 60 2 = some 2) ∧ ((structPl Try.prog 60 = some [(0, 1), (1, 1), (2, 1)]) ∧ (kindOf Try.prog 63 = some (some 2))))) ∧ (((sizeIn Try.prog 63 = some 2) ∧ (zeroCells? Try.prog 63 = some [.d (.v (.int .i64 0)), .d (.v (.slice none 0 0))])) ∧ ((fieldOff Try.prog 63 0 = some 0) ∧ ((fieldOff Try.prog 63 1 = some 1) ∧ (structPl Try.prog 63 = some [(0, 1), (1, 1)]))))) ∧ ((((kindOf Try.prog 38 = some (some 2)) ∧ (sizeIn Try.prog 38 = some 2)) ∧ ((zeroCells? Try.prog 38 = some [.d (.v (.slice none 0 0)), .d (.v (.slice none 0 0))]) ∧ ((fieldOff Try.prog 38 0 = some 0) ∧ (fieldOff Try.prog 38 1 = some 1)))) ∧ (((structPl Try.prog 38 = some [(0, 1), (1, 1)]) ∧ (kindOf Try.prog 66 = some (some 2))) ∧ ((sizeIn Try.prog 66 = some 2) ∧ ((zeroCells? Try.prog 66 = some [.d (.v (.int .i64 0)), .d (.v (.slice none 0 0))]) ∧ (fieldOff Try.prog 66 0 = some 0)))))) ∧ (((((fieldOff Try.prog 66 1 = some 1) ∧ (structPl Try.prog 66 = some [(0, 1), (1, 1)])) ∧ ((kindOf Try.prog 41 = some (some 3)) ∧ ((sizeIn Try.prog 41 = some 3) ∧ (zeroCells? Try.prog 41 = some [.d (.v (.int .i64 0)), .d (.v (.slice none 0 0)), .d (.v (.slice none 0 0))])))) ∧ (((fieldOff Try.prog 41 0 = some 0) ∧ (fieldOff Try.prog 41 1 = some 1)) ∧ ((fieldOff Try.prog 41 2 = some 2) ∧ ((structPl Try.prog 41 = some [(0, 1), (1, 1), (2, 1)]) ∧ (kindOf Try.prog 43 = some (some 7)))))) ∧ ((((sizeIn Try.prog 43 = some 7) ∧ (zeroCells? Try.prog 43 = some [.d (.v (.slice none 0 0)), .d (.v (.slice none 0 0)), .d (.v (.int .i64 0)), .d (.v (.slice none 0 0)), .d (.v (.slice none 0 0)), .d (.v (.slice none 0 0)), .d (.v (.slice none 0 0))])) ∧ ((fieldOff Try.prog 43 0 = some 0) ∧ ((fieldOff Try.prog 43 1 = some 2) ∧ (fieldOff Try.prog 43 2 = some 5)))) ∧ (((fieldOff Try.prog 43 3 = some 6) ∧ ((structPl Try.prog 43 = some [(0, 2), (2, 3), (5, 1), (6, 1)]) ∧ (Try.prog.underlying 9 = some (.string)))) ∧ ((Try.prog.underlying 3 = some (.int .i64)) ∧ ((Try.prog.underlying 5 = some (.int .u8)) ∧ (Try.prog.underlying 21 = some (.int .i32))))))))) :=
  ⟨⟨⟨⟨⟨⟨ty_kind_int, ty_size_int⟩, ⟨ty_zero_int, ⟨ty_kind_bool, ty_size_bool⟩⟩⟩, ⟨⟨ty_zero_bool, ty_kind_string⟩, ⟨ty_size_string, ⟨ty_zero_string, ty_kind_uint8⟩⟩⟩⟩, ⟨⟨⟨ty_size_uint8, ty_zero_uint8⟩, ⟨ty_kind_Lint, ⟨ty_size_Lint, ty_zero_Lint⟩⟩⟩, ⟨⟨ty_und_Lint, ty_el_Lint⟩, ⟨ty_kind_LLint, ⟨ty_size_LLint, ty_zero_LLint⟩⟩⟩⟩⟩, ⟨⟨⟨⟨ty_und_LLint, ty_el_LLint⟩, ⟨ty_kind_LRelation, ⟨ty_size_LRelation, ty_zero_LRelation⟩⟩⟩, ⟨⟨ty_und_LRelation, ty_el_LRelation⟩, ⟨ty_kind_LFact, ⟨ty_size_LFact, ty_zero_LFact⟩⟩⟩⟩, ⟨⟨⟨ty_und_LFact, ty_el_LFact⟩, ⟨ty_kind_LAtom, ⟨ty_size_LAtom, ty_zero_LAtom⟩⟩⟩, ⟨⟨ty_und_LAtom, ty_el_LAtom⟩, ⟨ty_kind_Relation, ⟨ty_size_Relation, ty_zero_Relation⟩⟩⟩⟩⟩⟩, ⟨⟨⟨⟨⟨ty_off_Relation_0, ty_off_Relation_1⟩, ⟨ty_off_Relation_2, ⟨ty_pl_Relation, ty_kind_Fact⟩⟩⟩, ⟨⟨ty_size_Fact, ty_zero_Fact⟩, ⟨ty_off_Fact_0, ⟨ty_off_Fact_1, ty_pl_Fact⟩⟩⟩⟩, ⟨⟨⟨ty_kind_Database, ty_size_Database⟩, ⟨ty_zero_Database, ⟨ty_off_Database_0, ty_off_Database_1⟩⟩⟩, ⟨⟨ty_pl_Database, ty_kind_Atom⟩, ⟨ty_size_Atom, ⟨ty_zero_Atom, ty_off_Atom_0⟩⟩⟩⟩⟩, ⟨⟨⟨⟨ty_off_Atom_1, ty_pl_Atom⟩, ⟨ty_kind_Query, ⟨ty_size_Query, ty_zero_Query⟩⟩⟩, ⟨⟨ty_off_Query_0, ty_off_Query_1⟩, ⟨ty_off_Query_2, ⟨ty_pl_Query, ty_kind_View⟩⟩⟩⟩, ⟨⟨⟨ty_size_View, ty_zero_View⟩, ⟨ty_off_View_0, ⟨ty_off_View_1, ty_off_View_2⟩⟩⟩, ⟨⟨ty_off_View_3, ⟨ty_pl_View, ty_und_string⟩⟩, ⟨ty_und_int, ⟨ty_und_uint8, ty_und_int32⟩⟩⟩⟩⟩⟩⟩
end Go.Proofs.Ytpcjhnbifgjleaa.Ab


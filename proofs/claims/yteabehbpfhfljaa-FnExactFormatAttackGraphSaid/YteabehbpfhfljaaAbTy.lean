/- What the reckoning asks of the types. Written by gen/abty.py. -/
import Derived.Test.YteabehbpfhfljaaAbTwo
import Derived.Test.YteabehbpfhfljaaProg
open Go Go.Proofs Go.RowKit
namespace Go.Proofs.Yteabehbpfhfljaa.Ab
set_option maxRecDepth 100000

theorem ty_kind_int : kindOf Try.prog 3 = some none := by kernel_rfl
theorem ty_size_int : sizeIn Try.prog 3 = some 1 := by kernel_rfl
theorem ty_zero_int : zeroCells? Try.prog 3 = some [.d (.v (.int .i64 0))] := by kernel_rfl
theorem ty_kind_bool : kindOf Try.prog 4 = some none := by kernel_rfl
theorem ty_size_bool : sizeIn Try.prog 4 = some 1 := by kernel_rfl
theorem ty_zero_bool : zeroCells? Try.prog 4 = some [.d (.v (.bool false))] := by kernel_rfl
theorem ty_kind_string : kindOf Try.prog 9 = some none := by kernel_rfl
theorem ty_size_string : sizeIn Try.prog 9 = some 1 := by kernel_rfl
theorem ty_zero_string : zeroCells? Try.prog 9 = some [.d (.v (.string ⟨#[]⟩))] := by kernel_rfl
theorem ty_kind_bitSet : kindOf Try.prog 53 = some none := by kernel_rfl
theorem ty_size_bitSet : sizeIn Try.prog 53 = some 1 := by kernel_rfl
theorem ty_zero_bitSet : zeroCells? Try.prog 53 = some [.d (.v (.int .u64 0))] := by kernel_rfl
theorem ty_kind_uint8 : kindOf Try.prog 5 = some none := by kernel_rfl
theorem ty_size_uint8 : sizeIn Try.prog 5 = some 1 := by kernel_rfl
theorem ty_zero_uint8 : zeroCells? Try.prog 5 = some [.d (.v (.int .u8 0))] := by kernel_rfl
theorem ty_kind_Lint : kindOf Try.prog 24 = some none := by kernel_rfl
theorem ty_size_Lint : sizeIn Try.prog 24 = some 1 := by kernel_rfl
theorem ty_zero_Lint : zeroCells? Try.prog 24 = some [.d (.v (.slice none 0 0))] := by kernel_rfl
theorem ty_und_Lint : Try.prog.underlying 24 = some (.slice 3) := by kernel_rfl
theorem ty_el_Lint : elOf Try.prog 24 = some (3, 1, 8) := by kernel_rfl
theorem ty_kind_Lstring : kindOf Try.prog 58 = some none := by kernel_rfl
theorem ty_size_Lstring : sizeIn Try.prog 58 = some 1 := by kernel_rfl
theorem ty_zero_Lstring : zeroCells? Try.prog 58 = some [.d (.v (.slice none 0 0))] := by kernel_rfl
theorem ty_und_Lstring : Try.prog.underlying 58 = some (.slice 9) := by kernel_rfl
theorem ty_el_Lstring : elOf Try.prog 58 = some (9, 1, 16) := by kernel_rfl
theorem ty_kind_Lbool : kindOf Try.prog 69 = some none := by kernel_rfl
theorem ty_size_Lbool : sizeIn Try.prog 69 = some 1 := by kernel_rfl
theorem ty_zero_Lbool : zeroCells? Try.prog 69 = some [.d (.v (.slice none 0 0))] := by kernel_rfl
theorem ty_und_Lbool : Try.prog.underlying 69 = some (.slice 4) := by kernel_rfl
theorem ty_el_Lbool : elOf Try.prog 69 = some (4, 1, 1) := by kernel_rfl
theorem ty_kind_Luint8 : kindOf Try.prog 86 = some none := by kernel_rfl
theorem ty_size_Luint8 : sizeIn Try.prog 86 = some 1 := by kernel_rfl
theorem ty_zero_Luint8 : zeroCells? Try.prog 86 = some [.d (.v (.slice none 0 0))] := by kernel_rfl
theorem ty_und_Luint8 : Try.prog.underlying 86 = some (.slice 5) := by kernel_rfl
theorem ty_el_Luint8 : elOf Try.prog 86 = some (5, 1, 1) := by kernel_rfl
theorem ty_kind_LRelation : kindOf Try.prog 30 = some none := by kernel_rfl
theorem ty_size_LRelation : sizeIn Try.prog 30 = some 1 := by kernel_rfl
theorem ty_zero_LRelation : zeroCells? Try.prog 30 = some [.d (.v (.slice none 0 0))] := by kernel_rfl
theorem ty_und_LRelation : Try.prog.underlying 30 = some (.slice 46) := by kernel_rfl
theorem ty_el_LRelation : elOf Try.prog 30 = some (46, 3, 32) := by kernel_rfl
theorem ty_kind_LAtom : kindOf Try.prog 32 = some none := by kernel_rfl
theorem ty_size_LAtom : sizeIn Try.prog 32 = some 1 := by kernel_rfl
theorem ty_zero_LAtom : zeroCells? Try.prog 32 = some [.d (.v (.slice none 0 0))] := by kernel_rfl
theorem ty_und_LAtom : Try.prog.underlying 32 = some (.slice 48) := by kernel_rfl
theorem ty_el_LAtom : elOf Try.prog 32 = some (48, 2, 32) := by kernel_rfl
theorem ty_kind_LatomShape : kindOf Try.prog 54 = some none := by kernel_rfl
theorem ty_size_LatomShape : sizeIn Try.prog 54 = some 1 := by kernel_rfl
theorem ty_zero_LatomShape : zeroCells? Try.prog 54 = some [.d (.v (.slice none 0 0))] := by kernel_rfl
theorem ty_und_LatomShape : Try.prog.underlying 54 = some (.slice 81) := by kernel_rfl
theorem ty_el_LatomShape : elOf Try.prog 54 = some (81, 2, 16) := by kernel_rfl
theorem ty_kind_Relation : kindOf Try.prog 46 = some (some 3) := by kernel_rfl
theorem ty_size_Relation : sizeIn Try.prog 46 = some 3 := by kernel_rfl
theorem ty_zero_Relation : zeroCells? Try.prog 46 = some [.d (.v (.string ⟨#[]⟩)), .d (.v (.int .i64 0)), .d (.v (.int .i64 0))] := by kernel_rfl
theorem ty_off_Relation_0 : fieldOff Try.prog 46 0 = some 0 := by kernel_rfl
theorem ty_off_Relation_1 : fieldOff Try.prog 46 1 = some 1 := by kernel_rfl
theorem ty_off_Relation_2 : fieldOff Try.prog 46 2 = some 2 := by kernel_rfl
theorem ty_pl_Relation : structPl Try.prog 46 = some [(0, 1), (1, 1), (2, 1)] := by kernel_rfl
theorem ty_kind_Atom : kindOf Try.prog 48 = some (some 2) := by kernel_rfl
theorem ty_size_Atom : sizeIn Try.prog 48 = some 2 := by kernel_rfl
theorem ty_zero_Atom : zeroCells? Try.prog 48 = some [.d (.v (.int .i64 0)), .d (.v (.slice none 0 0))] := by kernel_rfl
theorem ty_off_Atom_0 : fieldOff Try.prog 48 0 = some 0 := by kernel_rfl
theorem ty_off_Atom_1 : fieldOff Try.prog 48 1 = some 1 := by kernel_rfl
theorem ty_pl_Atom : structPl Try.prog 48 = some [(0, 1), (1, 1)] := by kernel_rfl
theorem ty_kind_Query : kindOf Try.prog 34 = some (some 3) := by kernel_rfl
theorem ty_size_Query : sizeIn Try.prog 34 = some 3 := by kernel_rfl
theorem ty_zero_Query : zeroCells? Try.prog 34 = some [.d (.v (.int .i64 0)), .d (.v (.slice none 0 0)), .d (.v (.slice none 0 0))] := by kernel_rfl
theorem ty_off_Query_0 : fieldOff Try.prog 34 0 = some 0 := by kernel_rfl
theorem ty_off_Query_1 : fieldOff Try.prog 34 1 = some 1 := by kernel_rfl
theorem ty_off_Query_2 : fieldOff Try.prog 34 2 = some 2 := by kernel_rfl
theorem ty_pl_Query : structPl Try.prog 34 = some [(0, 1), (1, 1), (2, 1)] := by kernel_rfl
theorem ty_kind_queryShape : kindOf Try.prog 56 = some (some 2) := by kernel_rfl
theorem ty_size_queryShape : sizeIn Try.prog 56 = some 2 := by kernel_rfl
theorem ty_zero_queryShape : zeroCells? Try.prog 56 = some [.d (.v (.int .u64 0)), .d (.v (.slice none 0 0))] := by kernel_rfl
theorem ty_off_queryShape_0 : fieldOff Try.prog 56 0 = some 0 := by kernel_rfl
theorem ty_off_queryShape_1 : fieldOff Try.prog 56 1 = some 1 := by kernel_rfl
theorem ty_pl_queryShape : structPl Try.prog 56 = some [(0, 1), (1, 1)] := by kernel_rfl
theorem ty_kind_atomShape : kindOf Try.prog 81 = some (some 2) := by kernel_rfl
theorem ty_size_atomShape : sizeIn Try.prog 81 = some 2 := by kernel_rfl
theorem ty_zero_atomShape : zeroCells? Try.prog 81 = some [.d (.v (.int .u64 0)), .d (.v (.int .u64 0))] := by kernel_rfl
theorem ty_off_atomShape_0 : fieldOff Try.prog 81 0 = some 0 := by kernel_rfl
theorem ty_off_atomShape_1 : fieldOff Try.prog 81 1 = some 1 := by kernel_rfl
theorem ty_pl_atomShape : structPl Try.prog 81 = some [(0, 1), (1, 1)] := by kernel_rfl
theorem ty_und_string : Try.prog.underlying 9 = some (.string) := by kernel_rfl
theorem ty_und_int : Try.prog.underlying 3 = some (.int .i64) := by kernel_rfl
theorem ty_und_uint8 : Try.prog.underlying 5 = some (.int .u8) := by kernel_rfl
theorem ty_und_int32 : Try.prog.underlying 21 = some (.int .i32) := by kernel_rfl
theorem ty_mix : Try.prog.follows .mixedOrders = true := by kernel_rfl
theorem tyL : (((((((kindOf Try.prog 3 = some none) ∧ (sizeIn Try.prog 3 = some 1)) ∧ ((zeroCells? Try.prog 3 = some [.d (.v (.int .i64 0))]) ∧ ((kindOf Try.prog 4 = some none) ∧ (sizeIn Try.prog 4 = some 1)))) ∧ (((zeroCells? Try.prog 4 = some [.d (.v (.bool false))]) ∧ (kindOf Try.prog 9 = some none)) ∧ ((sizeIn Try.prog 9 = some 1) ∧ ((zeroCells? Try.prog 9 = some [.d (.v (.string ⟨#[]⟩))]) ∧ (kindOf Try.prog 53 = some none))))) ∧ ((((sizeIn Try.prog 53 = some 1) ∧ (zeroCells? Try.prog 53 = some [.d (.v (.int .u64 0))])) ∧ ((kindOf Try.prog 5 = some none) ∧ ((sizeIn Try.prog 5 = some 1) ∧ (zeroCells? Try.prog 5 = some [.d (.v (.int .u8 0))])))) ∧ (((kindOf Try.prog 24 = some none) ∧ ((sizeIn Try.prog 24 = some 1) ∧ (zeroCells? Try.prog 24 = some [.d (.v (.slice none 0 0))]))) ∧ ((Try.prog.underlying 24 = some (.slice 3)) ∧ ((elOf Try.prog 24 = some (3, 1, 8)) ∧ (kindOf Try.prog 58 = some none)))))) ∧ (((((sizeIn Try.prog 58 = some 1) ∧ (zeroCells? Try.prog 58 = some [.d (.v (.slice none 0 0))])) ∧ ((Try.prog.underlying 58 = some (.slice 9)) ∧ ((elOf Try.prog 58 = some (9, 1, 16)) ∧ (kindOf Try.prog 69 = some none)))) ∧ (((sizeIn Try.prog 69 = some 1) ∧ ((zeroCells? Try.prog 69 = some [.d (.v (.slice none 0 0))]) ∧ (Try.prog.underlying 69 = some (.slice 4)))) ∧ ((elOf Try.prog 69 = some (4, 1, 1)) ∧ ((kindOf Try.prog 86 = some none) ∧ (sizeIn Try.prog 86 = some 1))))) ∧ ((((zeroCells? Try.prog 86 = some [.d (.v (.slice none 0 0))]) ∧ (Try.prog.underlying 86 = some (.slice 5))) ∧ ((elOf Try.prog 86 = some (5, 1, 1)) ∧ ((kindOf Try.prog 30 = some none) ∧ (sizeIn Try.prog 30 = some 1)))) ∧ (((zeroCells? Try.prog 30 = some [.d (.v (.slice none 0 0))]) ∧ ((Try.prog.underlying 30 = some (.slice 46)) ∧ (elOf Try.prog 30 = some (46, 3, 32)))) ∧ ((kindOf Try.prog 32 = some none) ∧ ((sizeIn Try.prog 32 = some 1) ∧ (zeroCells? Try.prog 32 = some [.d (.v (.slice none 0 0))]))))))) ∧ ((((((Try.prog.underlying 32 = some (.slice 48)) ∧ (elOf Try.prog 32 = some (48, 2, 32))) ∧ ((kindOf Try.prog 54 = some none) ∧ ((sizeIn Try.prog 54 = some 1) ∧ (zeroCells? Try.prog 54 = some [.d (.v (.slice none 0 0))])))) ∧ (((Try.prog.underlying 54 = some (.slice 81)) ∧ (elOf Try.prog 54 = some (81, 2, 16))) ∧ ((kindOf Try.prog 46 = some (some 3)) ∧ ((sizeIn Try.prog 46 = some 3) ∧ (zeroCells? Try.prog 46 = some [.d (.v (.string ⟨#[]⟩)), .d (.v (.int .i64 0)), .d (.v (.int .i64 0))]))))) ∧ ((((fieldOff Try.prog 46 0 = some 0) ∧ (fieldOff Try.prog 46 1 = some 1)) ∧ ((fieldOff Try.prog 46 2 = some 2) ∧ ((structPl Try.prog 46 = some [(0, 1), (1, 1), (2, 1)]) ∧ (kindOf Try.prog 48 = some (some 2))))) ∧ (((sizeIn Try.prog 48 = some 2) ∧ ((zeroCells? Try.prog 48 = some [.d (.v (.int .i64 0)), .d (.v (.slice none 0 0))]) ∧ (fieldOff Try.prog 48 0 = some 0))) ∧ ((fieldOff Try.prog 48 1 = some 1) ∧ ((structPl Try.prog 48 = some [(0, 1), (1, 1)]) ∧ (kindOf Try.prog 34 = some (some 3))))))) ∧ (((((sizeIn Try.prog 34 = some 3) ∧ (zeroCells? Try.prog 34 = some [.d (.v (.int .i64 0)), .d (.v (.slice none 0 0)), .d (.v (.slice none 0 0))])) ∧ ((fieldOff Try.prog 34 0 = some 0) ∧ ((fieldOff Try.prog 34 1 = some 1) ∧ (fieldOff Try.prog 34 2 = some 2)))) ∧ (((structPl Try.prog 34 = some [(0, 1), (1, 1), (2, 1)]) ∧ ((kindOf Try.prog 56 = some (some 2)) ∧ (sizeIn Try.prog 56 = some 2))) ∧ ((zeroCells? Try.prog 56 = some [.d (.v (.int .u64 0)), .d (.v (.slice none 0 0))]) ∧ ((fieldOff Try.prog 56 0 = some 0) ∧ (fieldOff Try.prog 56 1 = some 1))))) ∧ ((((structPl Try.prog 56 = some [(0, 1), (1, 1)]) ∧ (kindOf Try.prog 81 = some (some 2))) ∧ ((sizeIn Try.prog 81 = some 2) ∧ ((zeroCells? Try.prog 81 = some [.d (.v (.int .u64 0)), .d (.v (.int .u64 0))]) ∧ (fieldOff Try.prog 81 0 = some 0)))) ∧ (((fieldOff Try.prog 81 1 = some 1) ∧ ((structPl Try.prog 81 = some [(0, 1), (1, 1)]) ∧ (Try.prog.underlying 9 = some (.string)))) ∧ ((Try.prog.underlying 3 = some (.int .i64)) ∧ ((Try.prog.underlying 5 = some (.int .u8)) ∧ (Try.prog.underlying 21 = some (.int .i32))))))))) :=
  ⟨⟨⟨⟨⟨⟨ty_kind_int, ty_size_int⟩, ⟨ty_zero_int, ⟨ty_kind_bool, ty_size_bool⟩⟩⟩, ⟨⟨ty_zero_bool, ty_kind_string⟩, ⟨ty_size_string, ⟨ty_zero_string, ty_kind_bitSet⟩⟩⟩⟩, ⟨⟨⟨ty_size_bitSet, ty_zero_bitSet⟩, ⟨ty_kind_uint8, ⟨ty_size_uint8, ty_zero_uint8⟩⟩⟩, ⟨⟨ty_kind_Lint, ⟨ty_size_Lint, ty_zero_Lint⟩⟩, ⟨ty_und_Lint, ⟨ty_el_Lint, ty_kind_Lstring⟩⟩⟩⟩⟩, ⟨⟨⟨⟨ty_size_Lstring, ty_zero_Lstring⟩, ⟨ty_und_Lstring, ⟨ty_el_Lstring, ty_kind_Lbool⟩⟩⟩, ⟨⟨ty_size_Lbool, ⟨ty_zero_Lbool, ty_und_Lbool⟩⟩, ⟨ty_el_Lbool, ⟨ty_kind_Luint8, ty_size_Luint8⟩⟩⟩⟩, ⟨⟨⟨ty_zero_Luint8, ty_und_Luint8⟩, ⟨ty_el_Luint8, ⟨ty_kind_LRelation, ty_size_LRelation⟩⟩⟩, ⟨⟨ty_zero_LRelation, ⟨ty_und_LRelation, ty_el_LRelation⟩⟩, ⟨ty_kind_LAtom, ⟨ty_size_LAtom, ty_zero_LAtom⟩⟩⟩⟩⟩⟩, ⟨⟨⟨⟨⟨ty_und_LAtom, ty_el_LAtom⟩, ⟨ty_kind_LatomShape, ⟨ty_size_LatomShape, ty_zero_LatomShape⟩⟩⟩, ⟨⟨ty_und_LatomShape, ty_el_LatomShape⟩, ⟨ty_kind_Relation, ⟨ty_size_Relation, ty_zero_Relation⟩⟩⟩⟩, ⟨⟨⟨ty_off_Relation_0, ty_off_Relation_1⟩, ⟨ty_off_Relation_2, ⟨ty_pl_Relation, ty_kind_Atom⟩⟩⟩, ⟨⟨ty_size_Atom, ⟨ty_zero_Atom, ty_off_Atom_0⟩⟩, ⟨ty_off_Atom_1, ⟨ty_pl_Atom, ty_kind_Query⟩⟩⟩⟩⟩, ⟨⟨⟨⟨ty_size_Query, ty_zero_Query⟩, ⟨ty_off_Query_0, ⟨ty_off_Query_1, ty_off_Query_2⟩⟩⟩, ⟨⟨ty_pl_Query, ⟨ty_kind_queryShape, ty_size_queryShape⟩⟩, ⟨ty_zero_queryShape, ⟨ty_off_queryShape_0, ty_off_queryShape_1⟩⟩⟩⟩, ⟨⟨⟨ty_pl_queryShape, ty_kind_atomShape⟩, ⟨ty_size_atomShape, ⟨ty_zero_atomShape, ty_off_atomShape_0⟩⟩⟩, ⟨⟨ty_off_atomShape_1, ⟨ty_pl_atomShape, ty_und_string⟩⟩, ⟨ty_und_int, ⟨ty_und_uint8, ty_und_int32⟩⟩⟩⟩⟩⟩⟩
end Go.Proofs.Yteabehbpfhfljaa.Ab

